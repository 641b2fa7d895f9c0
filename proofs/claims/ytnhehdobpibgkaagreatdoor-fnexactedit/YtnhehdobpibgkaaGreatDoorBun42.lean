/- What a record does, by the specification: an image is published. -/
import Derived.Test.YtnhehdobpibgkaaGreatDoorRows
import Derived.WalkKit
import Derived.WalkSpells
import Derived.WalkLawsBesides
import Derived.Outline
import Derived.RegionTactic
import Derived.BigRegion
import Derived.Deep.RegionHeld3
import Derived.Deep.RegionLaw
import Derived.Test.YtnhehdobpibgkaaGreatDoorBun0
import Derived.Test.YtnhehdobpibgkaaGreatDoorBun11
import Derived.Test.YtnhehdobpibgkaaGreatDoorHexRSZq
import Derived.Test.YtnhehdobpibgkaaGreatDoorBun22
import Derived.Test.YtnhehdobpibgkaaGreatDoorBun24
import Derived.Test.YtnhehdobpibgkaaGreatDoorPutSZq
import Derived.Test.YtnhehdobpibgkaaGreatDoorDoPZq
import Derived.Test.YtnhehdobpibgkaaGreatDoorGoThPZq
import Derived.Test.YtnhehdobpibgkaaGreatDoorBun40
import Derived.Test.YtnhehdobpibgkaaGreatDoorDoSRZq
import Derived.Defers
import Derived.Recover
namespace Go.Proofs.YtnhehdobpibgkaaGreatDoor
open Go.RowKit
set_option linter.unusedVariables false

set_option maxRecDepth 100000 in
set_option maxHeartbeats 3200000 in
theorem l08Do_P (b : Nat) (S : List Src) (im : ByteArray) (n : Nat) (at_ : Int) (s : ByteArray) (w : World) (h : StIs w b (S, im, n) at_) (hr : rightT (S, im, n)) (hs : s.size ≤ 8000) (hn : n ≤ 1000000) (hpos : 0 < s.size) (hc : s[0].toNat = 80) (t1 : ByteArray) (q1 : Int) (hp1 : pT s 1 = some (t1, q1)) :
    Calls Tryz.prog 44 #[.pointer (some ⟨b, 0, none⟩), .string s] w (SD b (S, im, n) at_ (doB S im n s) w) := by
  have HL : Hid (StIs w b (S, im, n) at_) := h
  have HRT : Hid (rightT (S, im, n)) := hr
  have hl : S.length ≤ 20 := hr.2.1
  have hbw : b < w.heap.size := by obtain ⟨v, hv, _⟩ := h; exact heap_lt hv
  have hue := full_text hpos
  have hx0 : (0 : Int) < (s.size : Int) := by omega
  have HB0 : Hid (b0 s = ((80 : Nat) : Int)) := by show _ = _; rw [b0_at hpos, hc]
  have HP1 : Hid (pT s 1 = some (t1, q1)) := hp1
  have hbd1 := pT_bdI (by omega) (by omega) hp1
  have ht1 := hbd1.1
  have hq1a := hbd1.2.1
  have hq1b := hbd1.2.2
  clear h hr hp1 hbd1
  have HD : Hid (doB S im n s = (one1 s).bind fun x => pubO S im n x) := do_80 hpos HB0.out
  have hc1 : ((s[0].toNat : Int) == 69) = false := by rw [hc]; rfl
  have hc2 : ((s[0].toNat : Int) == 82) = false := by rw [hc]; rfl
  have hc3 : ((s[0].toNat : Int) == 80) = true := by rw [hc]; rfl
  obtain ⟨v, hrow, hown⟩ := HL.out
  have HRw : Hid (w.heap[b]? = _) := hrow
  have HOw : Hid (OwnR w (b + 1) v S) := hown
  clear hrow hown
  by_cases hq : q1 = (s.size : Int)
  · subst hq
    have hqq : ((s.size : Int) == (s.size : Int)) = true := by simp
    have HDP : Hid (doB S im n s = pubO S im n t1) := by show _ = _; rw [HD.out, one1_is HP1.out, if_pos rfl]; rfl
    have HTM : Hid (t1.size ≤ maxLen) := by show _ ≤ _; unfold maxLen; omega
    obtain ⟨k, hk⟩ : ∃ k, rdC t1 = k := ⟨_, rfl⟩
    have HK : Hid (rdC t1 = k) := hk
    by_cases hk0 : k = 0
    · subst hk0
      have HD2 : Hid (doB S im n s = some (S, t1, n + 1)) := by show _ = _; rw [HDP.out]; exact if_pos hk
      clear hk
      go_enter Tryz.func44, Tryz.ntmps44
      go_wp2_with fail
      refine (specText_yes HP1.out hs (by omega) (by omega)).mono ?_
      rintro e x ⟨rfl, hb⟩
      have HBx : Hid (Below w.heap.size w x) := hb
      clear hb
      go_wp2_with fail
      refine (specHex_is HK.out HTM.out).mono ?_
      rintro e y ⟨⟨nn, va, vl, vk, rfl⟩, hb⟩
      have hfl := field_hexc nn va vl vk 0
      have HBy : Hid (Below w.heap.size w y) := below_call (below_more HBx.out _) hb
      have HRy : Hid (y.heap[b]? = _) := heap_keep HRw.out HBy.out
      have HXy : Hid (y.heap[x.heap.size]? = _) := heap_keep (heap_alloc_new x (.cells #[.string t1, .int .i64 (s.size : Int), .int .i64 0] 61)) hb
      obtain ⟨e0, e1, e2, _⟩ := three_cf HXy.out
      have f1 := cellH (i := 1) HRy.out rfl
      have f2 := cellH (i := 2) HRy.out rfl
      have g1 : y.frozen? ⟨b, 1, none⟩ = false := frozen_of_row _ _ _ _ _ HRy.out
      have g2 : y.frozen? ⟨b, 2, none⟩ = false := frozen_of_row _ _ _ _ _ HRy.out
      clear hb
      go_wp2
      go_ret
      exact ⟨But.setB (But.setB (But.of HBy.out) (p := ⟨b, 1, none⟩) rfl _) (p := ⟨b, 2, none⟩) rfl _, .inl ⟨_, HD2.out, rfl, ⟨_, heap_set (heap_set HRy.out 1 _) 2 _, own_set (own_set (HOw.out.call HBy.out) (by omega)) (by omega)⟩⟩⟩
    · have HD2 : Hid (doB S im n s = none) := by show _ = _; rw [HDP.out]; exact if_neg (by rw [hk]; exact hk0)
      have hk2 : (k == 0) = false := by rw [beq_eq_false_iff_ne]; exact hk0
      clear hk
      go_enter Tryz.func44, Tryz.ntmps44
      go_wp2_with fail
      refine (specText_yes HP1.out hs (by omega) (by omega)).mono ?_
      rintro e x ⟨rfl, hb⟩
      have HBx : Hid (Below w.heap.size w x) := hb
      clear hb
      go_wp2_with fail
      refine (specHex_is HK.out HTM.out).mono ?_
      rintro e y ⟨⟨nn, va, vl, vk, rfl⟩, hb⟩
      have hfl := field_hexc nn va vl vk k
      have HBy : Hid (Below w.heap.size w y) := below_call (below_more HBx.out _) hb
      clear hb
      go_wp2
      go_ret
      exact ⟨But.of HBy.out, .inr ⟨HD2.out, rfl, HL.out.call HBy.out⟩⟩
  · have hqq : (q1 == (s.size : Int)) = false := by rw [beq_eq_false_iff_ne]; exact hq
    have HD2 : Hid (doB S im n s = none) := by show _ = _; rw [HD.out, one1_is HP1.out, if_neg hq]; rfl
    go_enter Tryz.func44, Tryz.ntmps44
    go_wp2_with fail
    refine (specText_yes HP1.out hs (by omega) (by omega)).mono ?_
    rintro e x ⟨rfl, hb⟩
    have HBx : Hid (Below w.heap.size w x) := hb
    clear hb
    go_wp2
    go_ret
    exact ⟨But.of (below_more HBx.out _), .inr ⟨HD2.out, rfl, HL.out.call (below_more HBx.out _)⟩⟩
end Go.Proofs.YtnhehdobpibgkaaGreatDoor
namespace Go.Proofs.YtnhehdobpibgkaaGreatDoor
open Go.RowKit
set_option linter.unusedVariables false

set_option maxRecDepth 100000 in
set_option maxHeartbeats 3200000 in
theorem l08Do_any (b : Nat) (S : List Src) (im : ByteArray) (n : Nat) (at_ : Int) (s : ByteArray) (w : World) (h : StIs w b (S, im, n) at_) (hr : rightT (S, im, n)) (hs : s.size ≤ 8000) (hn : n ≤ 1000000) :
    Calls Tryz.prog 44 #[.pointer (some ⟨b, 0, none⟩), .string s] w (SD b (S, im, n) at_ (doB S im n s) w) := by
  by_cases h0 : s.size = 0
  · have HL : Hid (StIs w b (S, im, n) at_) := h
    obtain rfl := text_empty h0
    have HD : Hid (doB S im n (⟨#[]⟩ : ByteArray) = none) := rfl
    clear h hr h0
    go_enter Tryz.func44, Tryz.ntmps44
    go_wp2
    go_ret
    exact ⟨But.refl _ _, .inr ⟨HD.out, rfl, HL.out⟩⟩
  · have hpos : 0 < s.size := by omega
    have hx0 : (0 : Int) < (s.size : Int) := by omega
    have hue := full_text hpos
    obtain ⟨c, hc⟩ : ∃ c : Nat, s[0].toNat = c := ⟨_, rfl⟩
    cases hp1 : pT s 1 with
    | none =>
      have HL : Hid (StIs w b (S, im, n) at_) := h
      have HP1 : Hid (pT s 1 = none) := hp1
      have HD : Hid (doB S im n s = none) := doB_none hp1
      clear hp1 h hr h0 hc
      go_enter Tryz.func44, Tryz.ntmps44
      go_wp2_with fail
      refine (specText_no HP1.out hs (by omega) (by omega)).mono ?_
      rintro e x ⟨⟨t, q, k, hk, rfl⟩, hb⟩
      have HBx : Hid (Below w.heap.size w x) := hb
      have hk2 : (k == 0) = false := by rw [beq_eq_false_iff_ne]; exact hk
      clear hb
      go_wp2
      go_ret
      exact ⟨But.of (below_more HBx.out _), .inr ⟨HD.out, rfl, HL.out.call (below_more HBx.out _)⟩⟩
    | some tq =>
      obtain ⟨t1, q1⟩ := tq
      by_cases e1 : c = 69
      · subst e1
        exact l08Do_E b S im n at_ s w h hr hs hn hpos hc t1 q1 hp1
      · by_cases e2 : c = 82
        · subst e2
          exact l08Do_R b S im n at_ s w h hr hs hn hpos hc t1 q1 hp1
        · by_cases e3 : c = 80
          · subst e3
            exact l08Do_P b S im n at_ s w h hr hs hn hpos hc t1 q1 hp1
          · have HL : Hid (StIs w b (S, im, n) at_) := h
            have HB0 : Hid (b0 s = (c : Int)) := by show _ = _; rw [b0_at hpos, hc]
            have hc1 : ((s[0].toNat : Int) == 69) = false := by rw [hc, beq_eq_false_iff_ne]; omega
            have hc2 : ((s[0].toNat : Int) == 82) = false := by rw [hc, beq_eq_false_iff_ne]; omega
            have hc3 : ((s[0].toNat : Int) == 80) = false := by rw [hc, beq_eq_false_iff_ne]; omega
            have HP1 : Hid (pT s 1 = some (t1, q1)) := hp1
            have HD : Hid (doB S im n s = none) := do_no hpos (by rw [HB0.out]; omega) (by rw [HB0.out]; omega) (by rw [HB0.out]; omega)
            clear e1 e2 e3 h hr h0 hp1 hc
            go_enter Tryz.func44, Tryz.ntmps44
            go_wp2_with fail
            refine (specText_yes HP1.out hs (by omega) (by omega)).mono ?_
            rintro e x ⟨rfl, hb⟩
            have HBx : Hid (Below w.heap.size w x) := hb
            clear hb
            go_wp2
            go_ret
            exact ⟨But.of (below_more HBx.out _), .inr ⟨HD.out, rfl, HL.out.call (below_more HBx.out _)⟩⟩
end Go.Proofs.YtnhehdobpibgkaaGreatDoor
namespace Go.Proofs.YtnhehdobpibgkaaGreatDoor
open Go.RowKit
set_option linter.unusedVariables false

theorem set_four {W : World} {g : Nat} {t : TypeId} {z0 z1 z2 z3 a b c d : Value} (h : W.heap[g]? = some (.cells #[z0, z1, z2, z3] t (0, 0))) : ((((W.setCell ⟨g, 0, none⟩ a).setCell ⟨g, 1, none⟩ b).setCell ⟨g, 2, none⟩ c).setCell ⟨g, 3, none⟩ d).heap[g]? = some (.cells #[a, b, c, d] t (0, 0)) :=
  heap_set (heap_set (heap_set (heap_set h 0 a) 1 b) 2 c) 3 d
theorem four_cf {W : World} {B : Nat} {t : TypeId} {v0 v1 v2 v3 : Value} (hR : W.heap[B]? = some (.cells #[v0, v1, v2, v3] t (0, 0))) :
    (W.cell? ⟨B, 0, none⟩ = some v0 ∧ W.cell? ⟨B, 1, none⟩ = some v1 ∧ W.cell? ⟨B, 2, none⟩ = some v2 ∧ W.cell? ⟨B, 3, none⟩ = some v3) ∧ W.frozen? ⟨B, 0, none⟩ = false ∧ W.frozen? ⟨B, 1, none⟩ = false ∧ W.frozen? ⟨B, 2, none⟩ = false ∧ W.frozen? ⟨B, 3, none⟩ = false :=
  ⟨⟨cellH hR rfl, cellH hR rfl, cellH hR rfl, cellH hR rfl⟩, frozen_of_row _ _ _ _ _ hR, frozen_of_row _ _ _ _ _ hR, frozen_of_row _ _ _ _ _ hR, frozen_of_row _ _ _ _ _ hR⟩
def caughtW (w : World) (bs : Nat) (v : Value) (im : ByteArray) (n at_ : Int) : World := (((w.setCell ⟨bs, 0, none⟩ v).setCell ⟨bs, 1, none⟩ (.string im)).setCell ⟨bs, 2, none⟩ (.int .i64 n)).setCell ⟨bs, 3, none⟩ (.int .i64 at_)
set_option maxRecDepth 100000 in
set_option maxHeartbeats 1600000 in
theorem catch_panicking (bl bs : Nat) (a : Option Addr) (l k : Nat) (im : ByteArray) (n at_ : Int) (z0 z1 z2 z3 : Value) (te : TypeId) (pe : Value) (w : World) (h1 : w.heap[bl]? = some (.cells #[.slice a l k, .string im, .int .i64 n, .int .i64 at_] 47 (0, 0))) (h2 : w.heap[bs]? = some (.cells #[z0, z1, z2, z3] 24 (0, 0))) (hne : bl ≠ bs) :
    CallsD Tryz.prog 26 #[.pointer (some ⟨bl, 0, none⟩), .pointer (some ⟨bs, 0, none⟩)] (.panicking [{ v := .iface te pe, recovered := false }]) w fun e u' w' =>
      e = .returned (.tuple #[]) ∧ u' = .panicking [{ v := .iface te pe, recovered := true }] ∧ w' = caughtW w bs (.slice a l k) im n at_ := by
  obtain ⟨⟨c0, c1, c2, c3⟩, f0, f1, f2, f3⟩ := four_cf h1
  obtain ⟨⟨d0, d1, d2, d3⟩, g0, g1, g2, g3⟩ := four_cf h2
  clear h1 h2 f0 f1 f2 f3
  refine callsD_of_wpS Tryz.func26 rfl fun c₀ cs hu => ?_
  apply wpS_seq
  apply wpS_region
  simp [wpOpsS, go_sem, recoverD, hu, Tryz.ntmps26, Exit.thenS]
  refine wpS_of_wp ?_
  go_wp2
  exact ⟨rfl, _, rfl, _, results_none rfl _ _ _, rfl, rfl, rfl⟩
set_option maxRecDepth 100000 in
set_option maxHeartbeats 1600000 in
theorem catch_idle (bl bs : Nat) (a : Option Addr) (l k : Nat) (im : ByteArray) (n at_ : Int) (z0 z1 z2 z3 : Value) (w : World) (h1 : w.heap[bl]? = some (.cells #[.slice a l k, .string im, .int .i64 n, .int .i64 at_] 47 (0, 0))) (h2 : w.heap[bs]? = some (.cells #[z0, z1, z2, z3] 24 (0, 0))) (hne : bl ≠ bs) :
    CallsD Tryz.prog 26 #[.pointer (some ⟨bl, 0, none⟩), .pointer (some ⟨bs, 0, none⟩)] .returning w fun e u' w' =>
      e = .returned (.tuple #[]) ∧ u' = .returning ∧ w' = caughtW w bs (.slice a l k) im n at_ := by
  obtain ⟨⟨c0, c1, c2, c3⟩, f0, f1, f2, f3⟩ := four_cf h1
  obtain ⟨⟨d0, d1, d2, d3⟩, g0, g1, g2, g3⟩ := four_cf h2
  clear h1 h2 f0 f1 f2 f3
  refine callsD_of_wpS Tryz.func26 rfl fun c₀ cs hu => ?_
  apply wpS_seq
  apply wpS_region
  simp [wpOpsS, go_sem, recoverD, hu, Tryz.ntmps26, Exit.thenS]
  refine wpS_of_wp ?_
  go_wp2
  exact ⟨rfl, .returning, by rw [← hu], _, results_none rfl _ _ _, rfl, rfl, rfl⟩
def StR (v : Value) (T : Told) (at_ : Int) : Value := .agg #[v, .string T.2.1, .int .i64 (T.2.2 : Int), .int .i64 at_]
def stOf (g : ByteArray) : LSt := if 8000 < g.size then (([], ⟨#[]⟩, 0), 0) else stateL g
set_option maxRecDepth 100000 in
set_option maxHeartbeats 3200000 in
theorem implStateOf_any (te : TypeId) (pe : Value) (g : ByteArray) (w : World) (hs : g.size ≤ maxLen) (hP : PanV te pe w) (hE : ErrV w) :
    Calls Tryz.prog 9 #[.string g] w fun e w' => (∃ v, e = .returned (StR v (stOf g).1 (stOf g).2) ∧ OwnR w' w.heap.size v (stOf g).1.1) ∧ Below w.heap.size w w' := by
  unfold maxLen at hs
  have hmf : ∀ (fn : Fn) (first cap : Array Value) (w : World), (Instr.makeFunc fn first cap).run Tryz.prog w = .ok (.func fn first cap) w := fun _ _ _ _ => rfl
  by_cases hbig : 8000 < g.size
  · have HS : Hid (stOf g = (([], ⟨#[]⟩, 0), 0)) := if_pos hbig
    have hbig2 : (8000 : Int) < (g.size : Int) := by omega
    clear hP hE
    go_enter_defers Tryz.func9, Tryz.ntmps9
    go_wp2
    exact ⟨_, results_cell_row Tryz.results9 _ _ w.heap.size 24 _ (0, 0) _ rfl (heap_alloc_new _ _) Tryz.underlying24 rfl (by kernel_rfl), ⟨_, by rw [HS.out]; rfl, by rw [HS.out]; exact OwnX.nil _ _⟩, below_new _ _⟩
  · have HS : Hid (stOf g = stateL g) := if_neg hbig
    have hbig2 : ¬ (8000 : Int) < (g.size : Int) := by omega
    have HP : Hid (PanV te pe w) := hP
    have HE : Hid (ErrV w) := hE
    have HG : Hid (0 ≠ w.heap.size + 1) := fun e => by have := hP.lt; omega
    have HG2 : Hid (1 ≠ w.heap.size + 1) := fun e => by obtain ⟨_, _, h⟩ := hE; have := World.block_lt_of_cell? _ _ h; dsimp only at this; omega
    clear hP hE
    go_enter_defers Tryz.func9, Tryz.ntmps9
    go_wp2_with fail
    refine (goThrough_any te pe (w.heap.size + 1) g _ ⟨_, heap_new2 w _ _, OwnX.nil _ _⟩ (by omega) ((HP.out.alloc _).alloc _) ((HE.out.alloc _).alloc _) HG.out HG2.out).mono ?_
    rintro e x ⟨hb, he, hl⟩
    obtain ⟨v, hrow, hown⟩ := hl
    obtain ⟨a, cap, rfl, _, _, _, _⟩ := hown.rows srcC_len
    have HB : Hid (Below w.heap.size w x) := But.below (below_more (below_new w _) _) hb (by omega) (by simp; omega)
    have HX : Hid (x.heap[w.heap.size]? = some (.cells #[.slice none 0 0, .string ⟨#[]⟩, .int .i64 0, .int .i64 0] 24 (0, 0))) := hb.keep (heap_more (heap_alloc_new w _) _) (by omega)
    have HRW : Hid (_ = _) := hrow
    have HOW : Hid (OwnR x (w.heap.size + 1 + 1) _ (stateL g).1.1) := hown
    clear hb hrow hown
    have HEND : Hid (∀ tmps : Array Value, tmps.getD 2 undef = .pointer (some ⟨w.heap.size, 0, none⟩) → Leaves Tryz.prog Tryz.f9 tmps (fun e w' => (∃ v, e = .returned (StR v (stOf g).1 (stOf g).2) ∧ OwnR w' w.heap.size v (stOf g).1.1) ∧ Below w.heap.size w w') [] .returning (caughtW x w.heap.size (.slice a (stateL g).1.1.length cap) (stateL g).1.2.1 (stateL g).1.2.2 (stateL g).2)) := by
      intro tmps ht
      refine ⟨_, results_cell_row Tryz.results9 _ _ w.heap.size 24 _ (0, 0) _ ht (set_four HX.out) Tryz.underlying24 rfl (by kernel_rfl), ⟨_, by rw [HS.out]; rfl, ?_⟩, ?_⟩
      · rw [HS.out]
        exact (own_set (own_set (own_set (own_set HOW.out (by omega)) (by omega)) (by omega)) (by omega)).low (by omega)
      · exact (((HB.out.setCell (Nat.le_refl _) _).setCell (Nat.le_refl _) _).setCell (Nat.le_refl _) _).setCell (Nat.le_refl _) _
    unfold panE at he
    rcases he with rfl | rfl
    · go_wp2
      refine leaves_cons (f := 26) (args := #[.pointer (some ⟨w.heap.size + 1, 0, none⟩), .pointer (some ⟨w.heap.size, 0, none⟩)]) (by simp) (by simp [go_sem]) ?_
      refine (catch_idle (w.heap.size + 1) w.heap.size a _ cap _ _ _ _ _ _ _ _ HRW.out HX.out (by omega)).mono ?_
      rintro e u' w'' ⟨rfl, rfl, rfl⟩
      exact HEND.out _ rfl
    · go_wp2
      refine leaves_cons (f := 26) (args := #[.pointer (some ⟨w.heap.size + 1, 0, none⟩), .pointer (some ⟨w.heap.size, 0, none⟩)]) (by simp) (by simp [go_sem]) ?_
      refine (catch_panicking (w.heap.size + 1) w.heap.size a _ cap _ _ _ _ _ _ _ te pe _ HRW.out HX.out (by omega)).mono ?_
      rintro e u' w'' ⟨rfl, rfl, rfl⟩
      exact HEND.out _ rfl
end Go.Proofs.YtnhehdobpibgkaaGreatDoor
