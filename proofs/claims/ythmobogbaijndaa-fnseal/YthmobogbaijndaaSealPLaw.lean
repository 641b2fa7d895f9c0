/- Proved: for every two slices of bytes the law FnSeal answers true (a drawn text is got back from its seal, with one byte turned it is refused, a CRC goes on from text to text), and both slices read as before. No condition. -/
import Derived.Test.YthmobogbaijndaaRows
import Derived.WalkKit
import Derived.ProofKit
import Derived.OpenShut
import Derived.ShutString
import Derived.ChangeOld
import Derived.Below
import Derived.WalkSpells
import Derived.WalkLawsBesides
import Derived.Test.YthmobogbaijndaaBase
import Derived.Test.YthmobogbaijndaaRow
import Derived.Test.YthmobogbaijndaaDraw
import Derived.Test.YthmobogbaijndaaCrcMath
import Derived.Test.YthmobogbaijndaaCrc
import Derived.Test.YthmobogbaijndaaCopy
import Derived.Test.YthmobogbaijndaaJoin
import Derived.Test.YthmobogbaijndaaFour
import Derived.Test.YthmobogbaijndaaSeal
import Derived.Test.YthmobogbaijndaaUnseal
import Derived.Test.YthmobogbaijndaaDrawSeal
import Derived.Test.YthmobogbaijndaaSealMath
import Derived.Test.YthmobogbaijndaaArgRow
import Derived.Test.YthmobogbaijndaaCrcAll
import Derived.Test.YthmobogbaijndaaTurn
namespace Go.Proofs.Ythmobogbaijndaa.fnSeal
open Go.ChangeShapes Go.WideShapes Go.ChangeAt Go.RowKit
open Go.ChangeMaps (open_string shut_string)
set_option linter.unusedVariables false

theorem own : ownKnob Try.prog.godebug = none := by kernel_rfl
theorem laidOut : laidOutB Try.prog = true := by kernel_rfl

def IsRow (k : IntKind) (w : World) (a : Option Addr) (len cap : Nat) (zs : List Int) : Prop :=
  (a = none ∧ len = 0 ∧ cap = 0 ∧ zs = []) ∨
  ∃ x, a = some x ∧ len ≤ cap ∧ cap ≤ maxLen ∧ zs.length = cap ∧ (∀ i, i < zs.length → w.cell? (x.add i) = some (.int k (zs.getD i 0))) ∧ ∀ n ∈ zs, (Lit.int k n).wf = true

set_option maxRecDepth 100000 in
set_option maxHeartbeats 1600000 in
theorem walk (a0 : Option Addr) (len0 cap0 : Nat) (z0 : List Int) (a1 : Option Addr) (len1 cap1 : Nat) (z1 : List Int) (w : World) (w0 : IsRow .u8 w a0 len0 cap0 z0) (w1 : IsRow .u8 w a1 len1 cap1 z1) :
    Calls Try.prog 3 #[.slice a0 len0 cap0, .slice a1 len1 cap1] w fun e w' => e = .returned (.bool true) ∧ Below w.heap.size w w' := by
  by_cases hb0 : 1048576 < len0
  · go_enter Try.func3, Try.ntmps3
    go_wp2
    go_ret
    exact ⟨rfl, Below.refl _ _⟩
  by_cases hb1 : 1048576 < len1
  · go_enter Try.func3, Try.ntmps3
    go_wp2
    go_ret
    exact ⟨rfl, Below.refl _ _⟩
  have HA0 : Hid (Arg w a0 len0 cap0) := arg_of_cells w0 (by omega)
  have HA1 : Hid (Arg w a1 len1 cap1) := arg_of_cells w1 (by omega)
  clear w0 w1
  go_enter Try.func3, Try.ntmps3
  go_wp2_with fail
  refine (drawSeal_any a0 len0 cap0 _ HA0.out).mono ?_
  rintro e x1 ⟨t, rfl, ht, hB1⟩
  have htm : t.size ≤ maxLen := by unfold maxLen; omega
  go_wp2_with fail
  refine (implSeal_any t _ htm).mono ?_
  rintro e x2 ⟨rfl, hB2'⟩
  have hB2 := hB1.trans (hB2'.mono hB1.size)
  clear hB2' hB1
  go_wp2_with fail
  refine (specSeal_any t _ htm).mono ?_
  rintro e x3 ⟨rfl, hB3'⟩
  have hB3 := hB2.trans (hB3'.mono hB2.size)
  clear hB3' hB2
  by_cases hs : t.size ≤ 7996
  · have e0 : sealB t = t ++ four (crcOf 0 t) := if_neg (by omega)
    have hsz : (sealB t).size = t.size + 4 := by rw [e0, ByteArray.size_append]; rfl
    have hne : (sealB t).toList.isEmpty = false := by
      rw [ByteArray.toList_eq]; simp; intro h
      have := congrArg Array.size h
      rw [show (sealB t).data.size = (sealB t).size from rfl, hsz] at this
      simp at this
    have HU : Hid (_) := unseal_ok t hs
    have HBad : Hid (∀ (j : Nat) (hj : j < (sealB t).size) (x : UInt8), x ≠ (sealB t)[j] → unsealC (turned (sealB t) j x) = 5) := unseal_bad t hs
    clear e0
    generalize sealB t = s at *
    have hs8 : s.size ≤ 8000 := by omega
    have hs4 : 4 ≤ s.size := by omega
    clear hsz
    obtain ⟨cap, W, R, fr, hcb, HR, hfr, hRl, HT, hBW', hlW⟩ := bytes_of s x3
    have hB4 : Below w.heap.size w W := hB3.trans (hBW'.mono hB3.size)
    have HR1 : Hid (_) := HR
    have HT1 : Hid (_) := HT
    have h3s := hB3.size
    clear HR HT hBW' hB3
    go_wp2_with fail
    refine (lwAt_any a1 len1 cap1 0 (s.size : Int) _ (HA1.out.below hB4) (by omega) (by omega) (by omega)).mono ?_
    rintro e W ⟨v0, rfl, hv0, hv1, hv2, rfl⟩
    obtain ⟨J, rfl⟩ := Int.eq_ofNat_of_zero_le hv0
    have hJ : J < s.size := by omega
    obtain ⟨hce, hfz⟩ := mark_cell HR1.out hfr rfl HT1.out hJ
    have hJi : (J : Int) < (s.size : Int) := by omega
    clear hv1 hv0
    go_wp2_with fail
    have HPo : Hid (Arg W.drew a1 len1 cap1) := (HA1.out.below hB4).drew
    have HXT : Hid (_) := fun D h => xor_ex s[J] D h
    have hsm : s.size ≤ maxLen := by unfold maxLen; omega
    clear hcb hv2
    go_region_with (first
      | (go_at_call 7; refine (lwAt_any a1 len1 cap1 1 255 _ (by exact HPo.out) (by omega) (by omega) (by omega)).mono ?_; rintro e y1 ⟨v1, rfl, hw0, hw1, hw2, rfl⟩; obtain ⟨D, rfl⟩ := Int.eq_ofNat_of_zero_le hw0; have hD : D < 255 := (by omega); obtain ⟨X, hxt, HXn⟩ := HXT.out D hD))
    all_goals
      have HB5 : Hid (Below w.heap.size w (W.setCell ⟨x3.heap.size, J, none⟩ (.int .u8 (X.toNat : Int))).drew) := (hB4.setCell h3s _).drew
      clear hce hfz hxt
      go_wp2_with fail
      refine (implUnseal_any s _ hsm).mono ?_
      rintro e y2 ⟨rfl, hb6⟩
      rw [HU.out.1, HU.out.2]
      have hcv := mark_after (cap := cap) HR1.out HT1.out _ X rfl hb6
      have HB6 : Hid (Below w.heap.size w y2) := HB5.out.trans (hb6.mono HB5.out.size)
      have htn : (turned s J X).size ≤ maxLen := by rw [turned_size]; exact hsm
      clear hb6
      go_wp2_with fail
      refine (implUnseal_any (turned s J X) _ htn).mono ?_
      rintro e y3 ⟨rfl, hb7⟩
      rw [HBad.out J hJ X HXn.out]
      have HBX : Hid (Below w.heap.size w y3) := HB6.out.trans (hb7.mono HB6.out.size)
      clear hb7 hcv
      have hfc := field_code (.string (unsealT (turned s J X))) (.int .i64 0) (.int .i64 5)
      go_wp2_with fail
      refine (drawCrcMore_any a1 len1 cap1 _ (HA1.out.below HBX.out)).mono ?_
      rintro e y1 ⟨c, u, rfl, hu, hc0, hc1, hBy'⟩
      have HBY : Hid (Below w.heap.size w y1) := HBX.out.trans (hBy'.mono HBX.out.size)
      have hum : u.size ≤ maxLen := by unfold maxLen; omega
      clear hBy'
      by_cases h8 : 8000 < t.size + u.size
      · go_wp2
        go_ret
        exact ⟨rfl, HBY.out⟩
      have HON : Hid (_ = _) := crcM_on t u (by omega)
      have htu : (t ++ u).size ≤ maxLen := by rw [ByteArray.size_append]; unfold maxLen; omega
      go_wp2_with fail
      refine (implCrcMore_all c u _ hum).mono ?_
      rintro e y2 ⟨rfl, rfl⟩
      go_wp2_with fail
      refine (specCrcMore_all c u _ hum).mono ?_
      rintro e y3 ⟨rfl, rfl⟩
      go_wp2_with fail
      refine (implCrc_any t _ htm).mono ?_
      rintro e y4 ⟨rfl, rfl⟩
      go_wp2_with fail
      refine (implCrcMore_all (crcI t) u _ hum).mono ?_
      rintro e y5 ⟨rfl, rfl⟩
      go_wp2_with fail
      refine (implCrc_any (t ++ u) _ htu).mono ?_
      rintro e y6 ⟨rfl, rfl⟩
      rw [HON.out]
      go_wp2
      go_ret
      exact ⟨rfl, HBY.out⟩
  · have e0 : sealB t = ⟨#[]⟩ := if_pos (by omega)
    rw [e0]
    have HBX : Hid (Below w.heap.size w x3) := hB3
    clear hB3 e0
    go_wp2_with fail
    refine (drawCrcMore_any a1 len1 cap1 _ (HA1.out.below HBX.out)).mono ?_
    rintro e y1 ⟨c, u, rfl, hu, hc0, hc1, hBy'⟩
    have HBY : Hid (Below w.heap.size w y1) := HBX.out.trans (hBy'.mono HBX.out.size)
    have hum : u.size ≤ maxLen := by unfold maxLen; omega
    clear hBy'
    by_cases h8 : 8000 < t.size + u.size
    · go_wp2
      go_ret
      exact ⟨rfl, HBY.out⟩
    have HON : Hid (_ = _) := crcM_on t u (by omega)
    have htu : (t ++ u).size ≤ maxLen := by rw [ByteArray.size_append]; unfold maxLen; omega
    go_wp2_with fail
    refine (implCrcMore_all c u _ hum).mono ?_
    rintro e y2 ⟨rfl, rfl⟩
    go_wp2_with fail
    refine (specCrcMore_all c u _ hum).mono ?_
    rintro e y3 ⟨rfl, rfl⟩
    go_wp2_with fail
    refine (implCrc_any t _ htm).mono ?_
    rintro e y4 ⟨rfl, rfl⟩
    go_wp2_with fail
    refine (implCrcMore_all (crcI t) u _ hum).mono ?_
    rintro e y5 ⟨rfl, rfl⟩
    go_wp2_with fail
    refine (implCrc_any (t ++ u) _ htu).mono ?_
    rintro e y6 ⟨rfl, rfl⟩
    rw [HON.out]
    go_wp2
    go_ret
    exact ⟨rfl, HBY.out⟩

set_option maxRecDepth 100000 in
theorem lifted (os : Os) (started : os.Started) (H : Type) (enc : TypeId × Value → H) :
    ReturnsInHanded {} Try.checked os 3 .any (Rows.fnSealSpec.pre6 enc Try.prog Try.f3 Rows.fnSealRow.domain false) (Rows.fnSealSpec.post enc Try.prog Try.f3 false true false false) := by
  refine returnsInHanded_of_change (C := Try.checked) own started (by kernel_rfl) Try.func3
    (ChangeSpec.witness6 (enc := enc) (C := Try.checked) false ⟨#[], #[.slice none 0 0, .slice none 0 0], []⟩ 8 (by kernel_rfl) (by kernel_rfl) (by kernel_rfl) (by kernel_rfl)) ?_
  intro W base args ds gs before hval0 hW hcnd _
  have hval : ∀ (j : Nat) t v, Try.f3.params[j]? = some t → args[j]? = some v → Value.okWide Try.prog W .any base t v := hval0
  have hW' := hW
  obtain ⟨p, q, hA0, hV, rfl, hfz, hnd⟩ := hW
  have hA : DataW.TrodAll enc Try.prog W 0 (fun _ => true) true Try.f3.params.toList args.toList ds p := hA0
  rw [Try.params3] at hA hval
  obtain ⟨v0, vs0, d0, ds0, p0, q0, hargs, rfl, rfl, h0, r0⟩ := trodAll_cons hA
  obtain ⟨v1, vs1, d1, ds1, p1, q1, rfl, rfl, rfl, h1, r1⟩ := trodAll_cons r0
  obtain ⟨rfl, rfl, rfl⟩ := trodAll_nil r1
  obtain rfl : args = #[v0, v1] := by cases args; simp_all
  obtain ⟨rfl, rfl⟩ := trodVars_none hV
  obtain ⟨a0, len0, cap0, rfl⟩ := okWide_slice Try.underlying22 (hval 0 22 v0 rfl rfl)
  have k0 := h0
  have lt0 : ∀ x ∈ p0, x.block < W.heap.size := by obtain ⟨m, hm⟩ := k0; exact DataW.trod_lt m _ _ _ hm
  obtain ⟨z0, w0⟩ : ∃ zs, IsRow .u8 W a0 len0 cap0 zs := by
    obtain ⟨fuel, hf⟩ := h0
    rcases open_ints Try.underlying22 Try.underlying5 (by kernel_rfl) hf with ⟨hcs, _⟩ | ⟨x, l, c, zs, hcs, _, hl, hm, hz, _, hcell, hwz⟩
    · simp [Value.cells] at hcs
      obtain ⟨rfl, rfl, rfl⟩ := hcs
      exact ⟨[], .inl ⟨rfl, rfl, rfl, rfl⟩⟩
    · simp [Value.cells] at hcs
      obtain ⟨rfl, rfl, rfl⟩ := hcs
      exact ⟨zs, .inr ⟨_, rfl, hl, hm, by simpa using hz, hcell, hwz⟩⟩
  obtain ⟨a1, len1, cap1, rfl⟩ := okWide_slice Try.underlying22 (hval 1 22 v1 rfl rfl)
  have k1 := h1
  have lt1 : ∀ x ∈ p1, x.block < W.heap.size := by obtain ⟨m, hm⟩ := k1; exact DataW.trod_lt m _ _ _ hm
  obtain ⟨z1, w1⟩ : ∃ zs, IsRow .u8 W a1 len1 cap1 zs := by
    obtain ⟨fuel, hf⟩ := h1
    rcases open_ints Try.underlying22 Try.underlying5 (by kernel_rfl) hf with ⟨hcs, _⟩ | ⟨x, l, c, zs, hcs, _, hl, hm, hz, _, hcell, hwz⟩
    · simp [Value.cells] at hcs
      obtain ⟨rfl, rfl, rfl⟩ := hcs
      exact ⟨[], .inl ⟨rfl, rfl, rfl, rfl⟩⟩
    · simp [Value.cells] at hcs
      obtain ⟨rfl, rfl, rfl⟩ := hcs
      exact ⟨zs, .inr ⟨_, rfl, hl, hm, by simpa using hz, hcell, hwz⟩⟩
  clear hA0 hval0
  refine (walk a0 len0 cap0 z0 a1 len1 cap1 z1 W w0 w1).mono fun e W' ⟨he, bel⟩ => ?_
  subst he
  exact ⟨_, rfl, _, _, _, [], _, [], hW', trodAll_mk1 (shut_bool Try.underlying4 _), (trodAll_cons_mk (Below.trod laidOut (by kernel_rfl) (of_decide_eq_true (by kernel_rfl)) k0 bel lt0) (trodAll_cons_mk (Below.trod laidOut (by kernel_rfl) (of_decide_eq_true (by kernel_rfl)) k1 bel lt1) trodAll_mk0)), rfl, bel.frame _, fun h => by cases h⟩

theorem over : Rows.fnSealRow.holds Try.pinned (OpenSpec.ofChange Rows.fnSealSpec) :=
  OpenClaim.holds_of_wide 3 Try.f3 rfl rfl rfl rfl rfl rfl rfl ⟨rfl, rfl, rfl, rfl, rfl⟩ rfl rfl rfl rfl rfl (by kernel_rfl) Try.func3 (by kernel_rfl)
    (of_decide_eq_true (by kernel_rfl)) (by unfold Func.isWrapper; first | (rw [if_pos (by decide +kernel)]; kernel_rfl) | (rw [if_neg (by decide +kernel)]; exact ⟨rfl, rfl⟩))
    (fun os started H enc _ => lifted os started H enc)

theorem proved : Rows.FnSealSaid := over
end Go.Proofs.Ythmobogbaijndaa.fnSeal
namespace Go.Proofs.Ythmobogbaijndaa
theorem fnSeal_holds : Rows.FnSealSaid := fnSeal.proved
#print axioms fnSeal_holds
end Go.Proofs.Ythmobogbaijndaa
