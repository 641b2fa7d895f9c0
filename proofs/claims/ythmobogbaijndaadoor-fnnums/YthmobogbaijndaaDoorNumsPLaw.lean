/- Proved: for every two slices of bytes the law FnNums answers true (a drawn number, or text, is got back from its bytes, with the place behind it; of bytes that end too early nothing is got), and both slices read as before. Tied card: errors.errorType holds what the row says. -/
import Derived.Test.YthmobogbaijndaaDoorRows
import Derived.Test.YthmobogbaijndaaDoorCards
import Derived.Test.YthmobogbaijndaaDoorTie
import Derived.WalkKit
import Derived.ProofKit
import Derived.OpenShut
import Derived.ShutString
import Derived.WalkSpells
import Derived.WalkLawsBesides
import Derived.LaidLaws
import Derived.LaidHandle
import Derived.SevenTiedAt
import Derived.ChangeOld
import Derived.Below
import Derived.Test.YthmobogbaijndaaDoorBase
import Derived.Test.YthmobogbaijndaaDoorRow
import Derived.Test.YthmobogbaijndaaDoorDraw
import Derived.Test.YthmobogbaijndaaDoorNumMath
import Derived.Test.YthmobogbaijndaaDoorGoto
import Derived.Test.YthmobogbaijndaaDoorAs
import Derived.Test.YthmobogbaijndaaDoorReadNum
import Derived.Test.YthmobogbaijndaaDoorCopy
import Derived.Test.YthmobogbaijndaaDoorJoin
import Derived.Test.YthmobogbaijndaaDoorGetText
import Derived.Test.YthmobogbaijndaaDoorPutMath
import Derived.Test.YthmobogbaijndaaDoorFold
import Derived.Test.YthmobogbaijndaaDoorPutNum
import Derived.Test.YthmobogbaijndaaDoorPutText
import Derived.Test.YthmobogbaijndaaDoorRoundMath
import Derived.Test.YthmobogbaijndaaDoorArgRow
import Derived.Test.YthmobogbaijndaaDoorZeros
import Derived.Test.YthmobogbaijndaaDoorDrawNums
import Derived.Test.YthmobogbaijndaaDoorRoundAll
namespace Go.Proofs.YthmobogbaijndaaDoor.fnNums
open Go.ChangeShapes Go.WideShapes Go.ChangeAt Go.RowKit
open Go.ChangeMaps (open_string shut_string)
set_option linter.unusedVariables false

theorem own : ownKnob Tryd.prog.godebug = none := by kernel_rfl
theorem et : Tryd.prog.globalNamed "errors.errorType" = some 0 := by kernel_rfl
theorem rt : (Tryd.prog.cutTypes.find? (·.1 == "internal/reflectlite.rtype")).map (·.2) = some 74 := by kernel_rfl
theorem oneRow : ((List.range 117).filter fun t => Tryd.prog.rowNamed t [101, 114, 114, 111, 114]) = [42] := by kernel_rfl
theorem size : Tryd.prog.types.size = 117 := by kernel_rfl
theorem handle_of_laid {W : World} (h : laidMetH Tryd.prog Rows.fnNumsRow.laid W) : Handle W := by
  have h' : laidMet Tryd.prog [] W ∧ handlesMet Tryd.prog Rows.fnNumsRow.laid W := h
  obtain ⟨name, u, ty, e1, e2, e3, e4, e5⟩ := h'.2 _ (List.mem_singleton.2 rfl)
  have en : name = [101, 114, 114, 111, 114] := (Option.some.inj e1).symm
  subst en
  obtain rfl := Option.some.inj (rt.symm.trans e2)
  have hm : ty ∈ (List.range 117).filter fun t => Tryd.prog.rowNamed t [101, 114, 114, 111, 114] := List.mem_filter.2 ⟨List.mem_range.2 (by rw [← size]; exact e3), e4⟩
  rw [oneRow] at hm
  obtain rfl := List.mem_singleton.1 hm
  have hh : typeHandle Tryd.prog 42 = .pointer (some ⟨1, 42, none⟩) := by kernel_rfl
  rw [hh] at e5
  unfold Handle
  simpa using World.var?_cell et e5 0

theorem laidOut : laidOutB Tryd.prog = true := by kernel_rfl
abbrev IsRow (k : IntKind) (w : World) (a : Option Addr) (len cap : Nat) (zs : List Int) : Prop :=
  (a = none ∧ len = 0 ∧ cap = 0 ∧ zs = []) ∨ ∃ x, a = some x ∧ len ≤ cap ∧ cap ≤ maxLen ∧ zs.length = cap ∧ (∀ i, i < zs.length → w.cell? (x.add i) = some (.int k (zs.getD i 0))) ∧ ∀ n ∈ zs, (Lit.int k n).wf = true
set_option maxRecDepth 100000 in
set_option maxHeartbeats 1600000 in
theorem walk (a0 : Option Addr) (len0 cap0 : Nat) (z0 : List Int) (a1 : Option Addr) (len1 cap1 : Nat) (z1 : List Int) (w : World) (w0 : IsRow .u8 w a0 len0 cap0 z0) (w1 : IsRow .u8 w a1 len1 cap1 z1) (hg : Handle w) :
    Calls Tryd.prog 3 #[.slice a0 len0 cap0, .slice a1 len1 cap1] w fun e w' => e = .returned (.bool true) ∧ Below w.heap.size w w' := by
  by_cases hb0 : 1048576 < len0
  · go_enter Tryd.func3, Tryd.ntmps3
    go_wp2
    go_ret
    exact ⟨rfl, Below.refl _ _⟩
  by_cases hb1 : 1048576 < len1
  · go_enter Tryd.func3, Tryd.ntmps3
    go_wp2
    go_ret
    exact ⟨rfl, Below.refl _ _⟩
  have HA0 : Hid (Arg w a0 len0 cap0) := arg_of_cells w0 (by omega)
  have HA1 : Hid (Arg w a1 len1 cap1) := arg_of_cells w1 (by omega)
  have HG : Hid (Handle w) := hg
  clear w0 w1 hg
  go_enter Tryd.func3, Tryd.ntmps3
  go_wp2_with fail
  refine (drawPutNum_any a0 len0 cap0 _ HA0.out).mono ?_
  rintro e x1 ⟨n, rfl, hn0, hn1, hB1⟩
  have HB1 : Hid (Below w.heap.size w x1) := hB1
  clear hB1
  go_wp2_with fail
  refine (implPutNum_any n _ hn0 hn1).mono ?_
  rintro e x2 ⟨rfl, hB2⟩
  have HB2 : Hid (Below w.heap.size w x2) := HB1.out.trans (hB2.mono HB1.out.size)
  clear hB2 HB1
  go_wp2_with fail
  refine (specPutNum_any n _ hn0 hn1).mono ?_
  rintro e x3 ⟨rfl, hB3⟩
  have HB3 : Hid (Below w.heap.size w x3) := HB2.out.trans (hB3.mono HB2.out.size)
  clear hB3 HB2
  have HN : Hid (_ = _) := num_back n hn0 hn1
  have HC : Hid (_ = _) := num_cut n hn0 hn1
  have ht1 := putS_one (foldN n)
  have ht2 := putS_le (foldN n)
  generalize putS (foldN n) = t at *
  have hz1 : ((⟨#[120, 121]⟩ ++ t) ++ ⟨#[122]⟩ : ByteArray).size ≤ maxLen := by
    rw [ByteArray.size_append, ByteArray.size_append]; show 2 + t.size + 1 ≤ maxLen; unfold maxLen; omega
  go_wp2_with fail
  refine (implGetNum_any _ 2 _ hz1 (by omega) (HG.out.below HB3.out)).mono ?_
  rintro e x4 ⟨rfl, hB4⟩
  rw [HN.out]
  have HB4 : Hid (Below w.heap.size w x4) := HB3.out.trans (hB4.mono HB3.out.size)
  clear hB4 HB3
  have hz2 : (t.extract 0 (t.size - 1)).size ≤ maxLen := by rw [cut_size]; unfold maxLen; omega
  go_wp2_with fail
  refine (implGetNum_any _ 0 _ hz2 (by omega) (HG.out.below (HB4.out.alloc HB4.out.size _))).mono ?_
  rintro e x5 ⟨rfl, hB5⟩
  rw [HC.out]
  have HB5 : Hid (Below w.heap.size w x5) := (HB4.out.alloc HB4.out.size _).trans (hB5.mono (HB4.out.alloc HB4.out.size _).size)
  clear hB5 HB4
  have hf1 := field_num (.int .i64 0) (.int .i64 0) (.int .i64 4)
  go_wp2_with fail
  refine (drawPutText_any a1 len1 cap1 _ (HA1.out.below HB5.out)).mono ?_
  rintro e x6 ⟨u, rfl, hu, hB6⟩
  have HB6 : Hid (Below w.heap.size w x6) := HB5.out.trans (hB6.mono HB5.out.size)
  have hum : u.size ≤ maxLen := by unfold maxLen; omega
  clear hB6 HB5 hf1
  go_wp2_with fail
  refine (implPutText_any u _ hum).mono ?_
  rintro e x7 ⟨rfl, hB7⟩
  have HB7 : Hid (Below w.heap.size w x7) := HB6.out.trans (hB7.mono HB6.out.size)
  clear hB7 HB6
  go_wp2_with fail
  refine (specPutText_any u _ hum).mono ?_
  rintro e x8 ⟨rfl, hB8⟩
  have HB8 : Hid (Below w.heap.size w x8) := HB7.out.trans (hB8.mono HB7.out.size)
  clear hB8 HB7
  by_cases h8 : 8000 < u.size
  · have e0 : putT u = ⟨#[]⟩ := if_pos h8
    rw [e0]
    go_wp2_with fail
    refine (specPutText_any u _ hum).mono ?_
    rintro e x9 ⟨rfl, hB9⟩
    have HB9 : Hid (Below w.heap.size w x9) := HB8.out.trans (hB9.mono HB8.out.size)
    rw [e0]
    clear hB9 HB8 e0
    go_wp2
    go_ret
    exact ⟨rfl, HB9.out⟩
  have hps := putT_size u (by omega)
  have hp1 := putS_one (foldN (u.size : Int))
  have hp2 := putS_le (foldN (u.size : Int))
  have hne : (putT u).toList.isEmpty = false := by
    rw [ByteArray.toList_eq]; simp; intro h
    have h2 : (putT u).size = 0 := congrArg Array.size h
    omega
  have hpm : (putT u).size ≤ 8010 := by omega
  have hp0 : 1 ≤ (putT u).size := by omega
  have HTB : Hid (_ → _) := text_back u (by omega)
  have HTC : Hid (_ → _) := text_cut u (by omega)
  clear hps hp1 hp2
  generalize putT u = p at *
  by_cases h9 : 8000 < p.size + 1
  · go_wp2
    go_ret
    exact ⟨rfl, HB8.out⟩
  have HTB1 : Hid (_ = _) := HTB.out (by omega)
  have HTC1 : Hid (_ = _) := HTC.out (by omega)
  have hz3 : (⟨#[120]⟩ ++ p : ByteArray).size ≤ maxLen := by
    rw [ByteArray.size_append]; show 1 + p.size ≤ maxLen; unfold maxLen; omega
  have hz4 : (p.extract 0 (p.size - 1)).size ≤ maxLen := by rw [cut_size]; unfold maxLen; omega
  clear HTB HTC
  go_wp2_with fail
  refine (implGetText_any _ 1 _ hz3 (by omega) (HG.out.below HB8.out)).mono ?_
  rintro e x9 ⟨rfl, hB9⟩
  rw [HTB1.out]
  have HB9 : Hid (Below w.heap.size w x9) := HB8.out.trans (hB9.mono HB8.out.size)
  clear hB9 HB8
  go_wp2_with fail
  refine (implGetText_any _ 0 _ hz4 (by omega) (HG.out.below HB9.out)).mono ?_
  rintro e y1 ⟨rfl, hB10⟩
  rw [HTC1.out]
  have HB10 : Hid (Below w.heap.size w y1) := HB9.out.trans (hB10.mono HB9.out.size)
  clear hB10 HB9
  have hf2 := field_text (.string (getT (p.extract 0 (p.size - 1)) (numV (p.extract 0 (p.size - 1)) 0)).1) (.int .i64 (getT (p.extract 0 (p.size - 1)) (numV (p.extract 0 (p.size - 1)) 0)).2.1) (.int .i64 4)
  go_wp2
  go_ret
  exact ⟨rfl, HB10.out⟩

theorem laid_met (os : Os) (args : Array Value) : laidMetH Tryd.prog Rows.fnNumsRow.laid (({ World.holding Tryd.prog os ⟨#[], #[], []⟩ with heap := (World.holding Tryd.prog os ⟨#[], #[], []⟩).heap.modify 0 fun | .cells _ t frozen => .cells #[.iface 74 (.agg #[.pointer (some ⟨1, 42, none⟩)])] t frozen | o => o } : World).forCall (fun _ _ => 0) ⟨#[], args, []⟩).memory :=
  laidMetH_of_parts (laidMet_nil _ _) (by kernel_rfl)

set_option maxRecDepth 100000 in
theorem lifted (os : Os) (started : os.Started) (H : Type) (enc : TypeId × Value → H) :
    ReturnsInHanded {} Tryd.checked os 3 .any (fun w args => (Rows.fnNumsSpec.pre enc Tryd.prog Tryd.f3 [] false w args ∧ laidMetH Tryd.prog Rows.fnNumsRow.laid w) ∧ sizedMet enc Tryd.prog Tryd.f3 (OpenSpec.ofChange Rows.fnNumsSpec) false w args)
      (Rows.fnNumsSpec.post enc Tryd.prog Tryd.f3 false true false false) := by
  refine returnsInHanded_of_change_and (C := Tryd.checked) (X := fun w _ => laidMetH Tryd.prog Rows.fnNumsRow.laid w) (fun _ _ _ hh h => h.of_heap hh) own started (by kernel_rfl) Tryd.func3
    (ChangeSpec.witness_at (enc := enc) (C := Tryd.checked) (os := os) (X := fun w _ => laidMetH Tryd.prog Rows.fnNumsRow.laid w) false { World.holding Tryd.prog os ⟨#[], #[], []⟩ with heap := (World.holding Tryd.prog os ⟨#[], #[], []⟩).heap.modify 0 fun | .cells _ t frozen => .cells #[.iface 74 (.agg #[.pointer (some ⟨1, 42, none⟩)])] t frozen | o => o } #[.slice none 0 0, .slice none 0 0] 8 rfl (by kernel_rfl) (by kernel_rfl) (by kernel_rfl) (by kernel_rfl) (by kernel_rfl) (laid_met os _)) ?_
  intro W base args ds gs before hval0 hW _ _ hL _
  have hval : ∀ (j : Nat) t v, Tryd.f3.params[j]? = some t → args[j]? = some v → Value.okWide Tryd.prog W .any base t v := hval0
  have hW' := hW
  obtain ⟨p, q, hA0, hV0, rfl, hfz, hnd⟩ := hW
  have hA : DataW.TrodAll enc Tryd.prog W 0 (fun _ => true) true Tryd.f3.params.toList args.toList ds p := hA0
  have hV : DataW.TrodVars enc Tryd.prog W (fun _ => true) [] gs q := hV0
  rw [Tryd.params3] at hA hval
  obtain ⟨v0, vs0, d0, ds0, p0, q0, hargs, rfl, rfl, h0, r0⟩ := trodAll_cons hA
  obtain ⟨v1, vs1, d1, ds1, p1, q1, rfl, rfl, rfl, h1, r1⟩ := trodAll_cons r0
  obtain ⟨rfl, rfl, rfl⟩ := trodAll_nil r1
  obtain rfl : args = #[v0, v1] := by cases args; simp_all
  obtain ⟨rfl, rfl⟩ := trodVars_none hV
  obtain ⟨a0, len0, cap0, rfl⟩ := okWide_slice Tryd.underlying22 (hval 0 22 v0 rfl rfl)
  have k0 := h0
  have lt0 : ∀ x ∈ p0, x.block < W.heap.size := by obtain ⟨m, hm⟩ := k0; exact DataW.trod_lt m _ _ _ hm
  obtain ⟨z0, w0⟩ : ∃ zs, IsRow .u8 W a0 len0 cap0 zs := by
    obtain ⟨fuel, hf⟩ := h0
    rcases open_ints Tryd.underlying22 Tryd.underlying5 (by kernel_rfl) hf with ⟨hcs, _⟩ | ⟨x, l, c, zs, hcs, _, hl, hm, hz, _, hcell, hwz⟩
    · simp [Value.cells] at hcs
      obtain ⟨rfl, rfl, rfl⟩ := hcs
      exact ⟨[], .inl ⟨rfl, rfl, rfl, rfl⟩⟩
    · simp [Value.cells] at hcs
      obtain ⟨rfl, rfl, rfl⟩ := hcs
      exact ⟨zs, .inr ⟨_, rfl, hl, hm, by simpa using hz, hcell, hwz⟩⟩
  obtain ⟨a1, len1, cap1, rfl⟩ := okWide_slice Tryd.underlying22 (hval 1 22 v1 rfl rfl)
  have k1 := h1
  have lt1 : ∀ x ∈ p1, x.block < W.heap.size := by obtain ⟨m, hm⟩ := k1; exact DataW.trod_lt m _ _ _ hm
  obtain ⟨z1, w1⟩ : ∃ zs, IsRow .u8 W a1 len1 cap1 zs := by
    obtain ⟨fuel, hf⟩ := h1
    rcases open_ints Tryd.underlying22 Tryd.underlying5 (by kernel_rfl) hf with ⟨hcs, _⟩ | ⟨x, l, c, zs, hcs, _, hl, hm, hz, _, hcell, hwz⟩
    · simp [Value.cells] at hcs
      obtain ⟨rfl, rfl, rfl⟩ := hcs
      exact ⟨[], .inl ⟨rfl, rfl, rfl, rfl⟩⟩
    · simp [Value.cells] at hcs
      obtain ⟨rfl, rfl, rfl⟩ := hcs
      exact ⟨zs, .inr ⟨_, rfl, hl, hm, by simpa using hz, hcell, hwz⟩⟩
  have hg := handle_of_laid hL
  clear hA0 hval0 hV0
  refine (walk a0 len0 cap0 z0 a1 len1 cap1 z1 W w0 w1 hg).mono fun e W' ⟨he, hb⟩ => ?_
  subst he
  exact ⟨_, rfl, _, _, _, [], _, [], hW', trodAll_mk1 (shut_bool Tryd.underlying4 _), (trodAll_cons_mk (Below.trod laidOut (by kernel_rfl) (of_decide_eq_true (by kernel_rfl)) k0 hb lt0) (trodAll_cons_mk (Below.trod laidOut (by kernel_rfl) (of_decide_eq_true (by kernel_rfl)) k1 hb lt1) trodAll_mk0)), rfl, hb.frame _, fun h => by cases h⟩

theorem said : Rows.FnNumsSaid :=
  OpenClaim.holds_of_wide 3 Tryd.f3 rfl rfl rfl rfl rfl rfl rfl ⟨rfl, rfl, rfl, rfl, rfl⟩ rfl rfl rfl rfl rfl (by kernel_rfl) Tryd.func3 (by kernel_rfl)
    (of_decide_eq_true (by kernel_rfl)) (by unfold Func.isWrapper; first | (rw [if_pos (by decide +kernel)]; kernel_rfl) | (rw [if_neg (by decide +kernel)]; exact ⟨rfl, rfl⟩))
    (fun os started H enc _ => lifted os started H enc)
end Go.Proofs.YthmobogbaijndaaDoor.fnNums
namespace Go.Proofs.YthmobogbaijndaaDoor
theorem fnNums_holds : Rows.FnNumsCardSaid :=
  Claim7.holds_tied_plain_at .later [] _ _ _ _ fnNums.said (fun _ h => by cases h) (by kernel_rfl) (fun _ h => by cases h) fnNums_row_tie rfl ⟨rfl, rfl⟩ (by kernel_rfl) rfl
    (fun f fn hf hfn => by
      obtain rfl : f = 3 := Option.some.inj ((show Tryd.prog.funcNamed Rows.fnNumsRow.func = some 3 by kernel_rfl).symm.trans hf) |>.symm
      obtain rfl : fn = Tryd.f3 := (Option.some.inj (Tryd.func3.symm.trans hfn)).symm
      exact ⟨by kernel_rfl, fun j t ht => by
        rw [Tryd.params3] at ht
        have hm : t ∈ [22, 22] := by simpa using Array.mem_of_getElem? ht
        have hall : ([22, 22].all fun u => !Tryd.prog.wantsStandIn u) = true := by kernel_rfl
        exact (show Tryd.prog.wantsStandIn t = false by simpa using List.all_eq_true.1 hall t hm)⟩)
    (by kernel_rfl)
#print axioms fnNums_holds
end Go.Proofs.YthmobogbaijndaaDoor
