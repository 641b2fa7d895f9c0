/- A source goes from among sources, and an image is published, by the program. -/
import Derived.Test.YtnhehdobpibgkaaGreatDoorRows
import Derived.WalkKit
import Derived.WalkSpells
import Derived.WalkLawsBesides
import Derived.Outline
import Derived.RegionTactic
import Derived.BigRegion
import Derived.Deep.RegionHeld3
import Derived.Test.YtnhehdobpibgkaaGreatDoorBun0
import Derived.Deep.RegionWith
import Derived.Deep.RegionLaw
import Derived.Test.YtnhehdobpibgkaaGreatDoorPutPZq
import Derived.Test.YtnhehdobpibgkaaGreatDoorHexRPZq
namespace Go.Proofs.YtnhehdobpibgkaaGreatDoor
open Go.RowKit
set_option linter.unusedVariables false

set_option maxRecDepth 100000 in
set_option maxHeartbeats 3200000 in
theorem drop_any (te : TypeId) (pe : Value) (b : Nat) (S : List Src) (im : ByteArray) (n : Nat) (at_ : Int) (nm : ByteArray) (w : World) (h : LgIs w b (S, im, n) at_) (hr : rightT (S, im, n)) (hP : PanV te pe w) (hG : 0 ≠ b) :
    Calls Tryz.prog 68 #[.pointer (some ⟨b, 0, none⟩), .string nm] w (PD te pe b (S, im, n) at_ (dropO S im n nm) w) := by
  obtain ⟨v, hrow, hown⟩ := h
  obtain ⟨a, cap, rfl, hR, hn, hc, hm⟩ := hown.rows srcC_len
  have HS : Hid (Srt S) := hr.1
  have hl : S.length ≤ 20 := hr.2.1
  have HZ : Hid (∀ s ∈ S, s.1.size ≤ 8000 ∧ s.2.size ≤ 8000) := hr.2.2.1
  have HRw : Hid (w.heap[b]? = _) := hrow
  have HOw : Hid (OwnR w (b + 1) (.slice a S.length cap) S) := hown
  have HR : Hid (RowIs 2 srcC w a S) := hR
  have HN : Hid (a = none → cap = 0) := hn
  have HM : Hid (cap ≤ maxLen) := hm
  have HP : Hid (PanV te pe w) := hP
  have hbw := heap_lt hrow
  clear hrow hown hR hn hm hP hr
  dsimp only at *
  obtain ⟨p, hp⟩ : ∃ p, plcL S nm = p := ⟨_, rfl⟩
  have hpl : p ≤ S.length := by rw [← hp]; exact plc_le S nm
  have HPL : Hid (plcL S nm = p) := hp
  clear hp
  cases hh : hasL S nm
  · have HH : Hid (hasL S nm = false) := hh
    clear hh
    have c0 := row40 HRw.out
    go_enter Tryz.func68, Tryz.ntmps68
    go_wp2_with fail
    refine (place_is HPL.out HH.out HR.out rfl (by omega) HS.out).mono ?_
    rintro e z ⟨rfl, hb⟩
    have HBz : Hid (Below w.heap.size w z) := hb
    have HRz : Hid (z.heap[b]? = _) := heap_keep HRw.out hb
    clear hb
    go_wp2_with fail
    refine (mustBe_no te pe _ (HP.out.below HBz.out)).mono ?_
    rintro e z2 ⟨rfl, hz⟩
    have hz2 := hz.symm
    clear hz
    subst hz2
    exact ⟨rfl, But.of HBz.out, .inr ⟨by unfold dropO; rw [if_neg (by rw [HH.out]; simp)], rfl, ⟨_, HRz.out, HOw.out.call HBz.out⟩⟩⟩
  · cases a with
    | none =>
      exfalso
      have h1 := (has_lt hh).1
      obtain ⟨y, hy, _⟩ := HR.out (by omega)
      cases hy
    | some x =>
    have HH : Hid (hasL S nm = true) := hh
    have hp2 : p + 1 ≤ S.length := by have := (has_lt hh).1; have h := HPL.out; omega
    clear hh
    have HDR : Hid (S.take p ++ S.drop (p + 1) = dropR S nm) := by show _ = _; unfold dropR; rw [HPL.out]
    have c0 := row40 HRw.out
    go_enter Tryz.func68, Tryz.ntmps68
    go_wp2_with fail
    refine (place_is HPL.out HH.out HR.out rfl (by omega) HS.out).mono ?_
    rintro e z ⟨rfl, hb⟩
    have HBc : Hid (Below w.heap.size w z) := hb
    have HRc : Hid (z.heap[b]? = _) := heap_keep HRw.out hb
    clear hb
    go_wp2_with fail
    refine (mustBe_yes _).mono ?_
    rintro e z2 ⟨rfl, hz⟩
    have hz2 := hz.symm
    clear hz
    subst hz2
    have hcf := cut_front (x := x) 45 Tryz.underlying45 hpl hc HM.out
    obtain ⟨yt, hcut, hrt⟩ := cut_tail (k := p + 1) (L := S) (x := x) (cap := cap) 45 Tryz.underlying45 (HR.out.below HBc.out) (by omega) hc HM.out ((p : Int) + 1) (by omega)
    have HRT : Hid (RowIs 2 srcC _ (some yt) (S.drop (p + 1))) := hrt
    clear hrt c0
    have d0 := row40 HRc.out
    have hw : wrap64 ((p : Int) + 1) = (p : Int) + 1 := IntWalk.wrap64_in _ (by omega)
    have hw2 : IntKind.i64.wrap ((p : Int) + 1) = (p : Int) + 1 := by rw [IntWalk.i64_left]; exact hw
    go_wp2_with fail
    go_region_with (first
      | (go_at_call 81; refine (concat2 (some x) (some yt) (S.take p) (S.drop (p + 1)) _ p cap (S.length - (p + 1)) (cap - (p + 1)) _ _ rfl ((HR.out.below HBc.out).take _) (by rw [List.length_take]; omega) (fun h => by cases h) HRT.out (by rw [List.length_drop]) (fun h => by cases h) (by omega) (by omega) HDR.out).mono ?_; rintro e yc ⟨⟨vv, rfl, ho⟩, hb⟩; have HOc : Hid (OwnR yc (b + 1) vv (dropR S nm)) := ho.low (by have := HBc.out.size; omega); obtain ⟨ar, cr, rfl, hRr, hnr, hcr, hmr⟩ := HOc.out.rows srcC_len; clear hRr hnr hcr hmr; have HRd : Hid (_ = _) := heap_keep HRc.out hb; have HBd : Hid (Below w.heap.size w yc) := below_call HBc.out hb; have f0 := row40 HRd.out; have f1 : yc.frozen? ⟨b, 0, none⟩ = false := frozen_of_row _ _ _ _ _ HRd.out; clear hb ho))
    all_goals
      go_wp2
      go_end0
      exact ⟨But.setB (But.of HBd.out) (p := ⟨b, 0, none⟩) rfl _, .inl ⟨_, by unfold dropO; rw [if_pos HH.out], rfl, ⟨_, heap_set HRd.out 0 _, own_set HOc.out (by omega)⟩⟩⟩
theorem field_hexc (n : Int) (a : Option Addr) (l k : Nat) (c : Int) (W : World) : (Instr.field 90 (.agg #[.int .i64 n, .slice a l k, .int .i64 c]) 2).run Tryz.prog W = .ok (.int .i64 c) W := by kernel_rfl
theorem hex_is {s : ByteArray} {c : Int} {w : World} (hc : rdC s = c) (hs : s.size ≤ maxLen) (hE : ErrV w) : Calls Tryz.prog 83 #[.string s] w fun e w' => (∃ n a l k, e = .returned (.agg #[.int .i64 n, .slice a l k, .int .i64 c])) ∧ Below w.heap.size w w' := by
  subst hc
  refine (implHexRead_any s w hs hE).mono ?_
  rintro e w' ⟨⟨v, rfl, ho⟩, hb⟩
  obtain ⟨a, cap, rfl, _⟩ := own_readI ho
  exact ⟨⟨_, a, _, cap, rfl⟩, hb⟩
set_option maxRecDepth 100000 in
set_option maxHeartbeats 3200000 in
theorem publish_any (te : TypeId) (pe : Value) (b : Nat) (S : List Src) (im : ByteArray) (n : Nat) (at_ : Int) (x : ByteArray) (w : World) (h : LgIs w b (S, im, n) at_) (hn : n ≤ 1000000) (hx : x.size ≤ 8000) (hP : PanV te pe w) (hE : ErrV w) (hG : 0 ≠ b) :
    Calls Tryz.prog 69 #[.pointer (some ⟨b, 0, none⟩), .string x] w (PD te pe b (S, im, n) at_ (pubO S im n x) w) := by
  obtain ⟨v, hrow, hown⟩ := h
  have HRw : Hid (w.heap[b]? = _) := hrow
  have HOw : Hid (OwnR w (b + 1) v S) := hown
  have HP : Hid (PanV te pe w) := hP
  have HE : Hid (ErrV w) := hE
  have hbw := heap_lt hrow
  clear hrow hown hP hE
  dsimp only at *
  have HX : Hid (x.size ≤ maxLen) := by show _ ≤ _; unfold maxLen; omega
  by_cases hc : rdC x = 0
  · have HC : Hid (rdC x = 0) := hc
    clear hc
    go_enter Tryz.func69, Tryz.ntmps69
    go_wp2_with fail
    refine (hex_is HC.out HX.out HE.out).mono ?_
    rintro e z ⟨⟨nn, va, vl, vk, rfl⟩, hb⟩
    have HBz : Hid (Below w.heap.size w z) := hb
    have HRz : Hid (z.heap[b]? = _) := heap_keep HRw.out hb
    have hfl := field_hexc nn va vl vk 0
    clear hb
    go_wp2_with fail
    refine (mustBe_yes _).mono ?_
    rintro e z2 ⟨rfl, hz⟩
    have hz2 := hz.symm
    clear hz
    subst hz2
    have f1 := cellH (i := 1) HRz.out rfl
    have f2 := cellH (i := 2) HRz.out rfl
    have g1 : z.frozen? ⟨b, 1, none⟩ = false := frozen_of_row _ _ _ _ _ HRz.out
    have g2 : z.frozen? ⟨b, 2, none⟩ = false := frozen_of_row _ _ _ _ _ HRz.out
    go_wp2
    go_end0
    exact ⟨But.setB (But.setB (But.of HBz.out) (p := ⟨b, 1, none⟩) rfl _) (p := ⟨b, 2, none⟩) rfl _, .inl ⟨_, by unfold pubO; rw [if_pos HC.out], rfl, ⟨_, heap_set (heap_set HRz.out 1 _) 2 _, own_set (own_set (HOw.out.call HBz.out) (by omega)) (by omega)⟩⟩⟩
  · obtain ⟨c, hcc⟩ : ∃ c, rdC x = c := ⟨_, rfl⟩
    rw [hcc] at hc
    have HC : Hid (rdC x = c) := hcc
    have hc2 : (c == 0) = false := by rw [beq_eq_false_iff_ne]; exact hc
    clear hcc
    go_enter Tryz.func69, Tryz.ntmps69
    go_wp2_with fail
    refine (hex_is HC.out HX.out HE.out).mono ?_
    rintro e z ⟨⟨nn, va, vl, vk, rfl⟩, hb⟩
    have HBz : Hid (Below w.heap.size w z) := hb
    have HRz : Hid (z.heap[b]? = _) := heap_keep HRw.out hb
    have hfl := field_hexc nn va vl vk c
    clear hb
    go_wp2_with fail
    refine (mustBe_no te pe _ (HP.out.below HBz.out)).mono ?_
    rintro e z2 ⟨rfl, hz⟩
    have hz2 := hz.symm
    clear hz
    subst hz2
    exact ⟨rfl, But.of HBz.out, .inr ⟨by unfold pubO; rw [if_neg (by rw [HC.out]; exact hc)], rfl, ⟨_, HRz.out, HOw.out.call HBz.out⟩⟩⟩
end Go.Proofs.YtnhehdobpibgkaaGreatDoor
