/- The walk of FnInsn. -/
import Derived.Test.YtdokiccfjbieiaaDoorRows
import Derived.WalkKit
import Derived.WalkSpells
import Derived.WalkLawsBesides
import Derived.Outline
import Derived.RegionTactic
import Derived.BigRegion
import Derived.Deep.RegionHeld3
import Derived.Deep.QuietTactic
import Derived.BigQuiet
import Derived.Deep.RegionWith
import Derived.Test.YtdokiccfjbieiaaDoorBun0
import Derived.Test.YtdokiccfjbieiaaDoorBun1
import Derived.Test.YtdokiccfjbieiaaDoorOpsBX
import Derived.Test.YtdokiccfjbieiaaDoorBun5
import Derived.Test.YtdokiccfjbieiaaDoorBun11
import Derived.Test.YtdokiccfjbieiaaDoorIsaZ1X
import Derived.Test.YtdokiccfjbieiaaDoorDrawI3X
namespace Go.Proofs.YtdokiccfjbieiaaDoor
open Go.RowKit
set_option linter.unusedVariables false

theorem ReadI.drewn {w : World} {a : Option Addr} {L : List Int} (h : ReadI w a L) : ReadI w.drew a L := h
theorem opsTab_of {w : World} (h : Tabs w) : OpsTab w := by
  obtain ⟨t, fr, g⟩ := h.ops
  exact ⟨⟨t, fr, g⟩⟩
theorem ops_slice {w : World} {B : Nat} {v : Value} (h : OwnS w B v opsAll) : ∃ a c, v = .slice a 27 c := by
  rcases h.form with ⟨_, e⟩ | ⟨g, cap, _, e, _⟩
  · exact absurd e (by decide +kernel)
  · exact ⟨_, _, e⟩
theorem field_out (v0 v1 v2 v3 v4 v5 v6 v7 v8 v9 v10 v11 v12 : Value) (W : World) : (Instr.field 46 (.agg #[v0, v1, v2, v3, v4, v5, v6, v7, v8, v9, v10, v11, v12]) 2).run Tryd.prog W = .ok v12 W := by kernel_rfl
theorem ReadI.cut {w : World} {a : Option Addr} {L : List Int} (h : ReadI w a L) : ReadI w a L.dropLast := fun hl => by
  simp at hl
  obtain ⟨x, rfl, hx, hc⟩ := h (by omega)
  exact ⟨x, rfl, hx, fun i hi => by rw [hc i (by simp at hi; omega)]; simp⟩
theorem ReadI.take {w : World} {a : Option Addr} {L : List Int} (h : ReadI w a L) (k : Nat) : ReadI w a (L.take k) := fun hl => by
  simp at hl
  obtain ⟨x, rfl, hx, hc⟩ := h (by omega)
  exact ⟨x, rfl, hx, fun i hi => by rw [hc i (by simp at hi; omega)]; simp⟩
theorem newsI {w : World} {x : Addr} {L : List Int} (h : ∀ i (h : i < L.length), w.cell? (x.add i) = some (.int .i64 L[i])) : ∀ (q : Nat) (u : Value), (cellsI L)[q]? = some u → w.cell? (x.add q) = some u := by
  intro q u hq
  simp only [cellsI, List.getElem?_map, Option.map_eq_some_iff] at hq
  obtain ⟨z, hz, rfl⟩ := hq
  obtain ⟨hl, rfl⟩ := List.getElem?_eq_some_iff.1 hz
  exact h q hl
theorem cellsI_one (L : List Int) : ∀ u ∈ cellsI L, u.oneCell' = true := by
  intro u hu
  simp only [cellsI, List.mem_map] at hu
  obtain ⟨z, _, rfl⟩ := hu
  rfl
theorem two_news (W : World) (a b : Int) (t : TypeId) : ∀ (q : Nat) (u : Value), [Value.int .i64 a, .int .i64 b][q]? = some u → (W.alloc (.cells #[.int .i64 a, .int .i64 b] t)).cell? ((⟨W.heap.size, 0, none⟩ : Addr).add q) = some u := by
  intro q u hq
  rw [add_zero0, cell_of_row _ _ q _ _ _ (heap_alloc_new W _)]
  simpa using hq
theorem one_two (a b : Int) : ∀ u ∈ [Value.int .i64 a, .int .i64 b], u.oneCell' = true := by
  intro u hu
  simp at hu
  rcases hu with rfl | rfl <;> rfl
theorem decode_cut (x : Addr) (L : List Int) (vc : Nat) (w : World) (hl : L.length ≤ 100) (hR : ReadI w (some x) L) (hT : Tabs w) (out : Array Value) (ho : decAll L.dropLast = out) :
    Calls Tryd.prog 20 #[.slice (some x) (L.length - 1) vc] w fun e w' => e = .returned (.agg out) ∧ Below w.heap.size w w' := by
  have h := implDecode_any (some x) L.dropLast vc w (by simp [maxLen]; omega) hR.cut hT
  rw [List.length_dropLast, ho] at h
  exact h
theorem lw_take {w : World} {ua ea : Option Addr} {uc ec k : Nat} {L : List Int} (h : ReadI w ua L) (h2 : ReadI w ea (L.take k)) (hk : (L.take k).length = k) (hl : k ≤ 100) :
    Calls Tryd.prog 15 #[.slice ea k ec, .slice ua k uc] w fun e w' => e = .returned (.bool true) ∧ Below w.heap.size w w' := by
  have h3 := lwWords_any ea ua ec uc (L.take k) (L.take k) w h2 (h.take k) (by omega) (by omega)
  rw [decide_eq_true rfl] at h3
  rw [hk] at h3
  exact h3
theorem lwAt0_any (a : Option Addr) (len cap : Nat) (most : Int) (w : World) (h : Arg w a len cap) (hm0 : -9223372036854775808 ≤ most) (hm1 : most ≤ 9223372036854775807) :
    Calls Tryd.prog 21 #[.slice a len cap, .int .i64 0, .int .i64 most] w fun e w' => ∃ v : Int, e = .returned (.int .i64 v) ∧ 0 ≤ v ∧ (v = 0 ∨ v < most) ∧ v < 256 ∧ w' = w := lwAt_any a len cap 0 most w h (by omega) hm0 hm1
theorem Tabs.drewn {w : World} (h : Tabs w) : Tabs w.drew := ⟨h.ops, h.shorts⟩
set_option maxRecDepth 100000 in
set_option maxHeartbeats 8000000 in
theorem lawInsn_walk (a0 a1 : Option Addr) (len0 cap0 len1 cap1 : Nat) (w : World) (m0 : len0 ≤ maxLen) (m1 : len1 ≤ maxLen) (h0 : len0 ≤ 1048576 → Arg w a0 len0 cap0) (h1 : len1 ≤ 1048576 → Arg w a1 len1 cap1) (hT : Tabs w) :
    Calls Tryd.prog 4 #[.slice a0 len0 cap0, .slice a1 len1 cap1] w fun e w' => e = .returned (.bool true) ∧ Below w.heap.size w w' := by
  unfold maxLen at m0 m1
  by_cases hb0 : 1048576 < len0
  · go_enter Tryd.func4, Tryd.ntmps4
    go_wp2
    go_ret
    exact ⟨rfl, Below.refl _ _⟩
  by_cases hb1 : 1048576 < len1
  · go_enter Tryd.func4, Tryd.ntmps4
    go_wp2
    go_ret
    exact ⟨rfl, Below.refl _ _⟩
  have HA0 : Hid (Arg w a0 len0 cap0) := h0 (by omega)
  have HA1 : Hid (Arg w a1 len1 cap1) := h1 (by omega)
  have HT : Hid (Tabs w) := hT
  clear h0 h1 hT
  go_enter Tryd.func4, Tryd.ntmps4
  go_wp2_with fail
  refine (drawEncode_any a0 len0 cap0 _ HA0.out).mono ?_
  rintro e x1 ⟨⟨op, b, m, r, n, l, m2, r2, n2, l2, j⟩, rfl, hb⟩
  have HB1 : Hid (Below w.heap.size w x1) := hb
  clear hb
  have hvs : Ins.vals ⟨op, b, m, r, n, l, m2, r2, n2, l2, j⟩ = #[.string op, .bool b, .int .i64 m, .int .i64 r, .int .i64 n, .bool l, .int .i64 m2, .int .i64 r2, .int .i64 n2, .bool l2, .int .i64 j] := rfl
  rw [hvs]
  clear hvs
  go_wp2_with fail
  refine (implEncode_any op b m r n l m2 r2 n2 l2 j _ ((HT.out.below HB1.out).alloc _)).mono ?_
  rintro e xc ⟨v, rfl, ho, hb⟩
  have HIc : Hid (_ = _) := heap_keep (heap_alloc_new x1 _) hb
  have HBc : Hid (Below w.heap.size w xc) := below_call (below_more HB1.out _) hb
  have hBB : w.heap.size ≤ x1.heap.size := HB1.out.size
  generalize x1.heap.size = B at *
  have hL := all_len op b m r n l m2 r2 n2 l2 j
  have HLL : Hid (allI op b m r n l m2 r2 n2 l2 j = allI op b m r n l m2 r2 n2 l2 j) := rfl
  generalize hLe : allI op b m r n l m2 r2 n2 l2 j = LL at ho hL
  have HLe : Hid (_ = _) := hLe
  clear hLe HLL
  obtain ⟨va, vc, rfl, hR⟩ := own_read ho
  have HOc : Hid (ReadI xc va LL) := hR
  have HOw : Hid (OwnI xc _ _ LL) := ho
  clear hb hR ho
  obtain ⟨c0, c1, c2, c3, c4, c5, c6, c7, c8, c9, c10⟩ := cells11 HIc.out
  go_wp2_with fail
  go_region_held3 (fun w' => w'.cell? ⟨B, 0, none⟩ = some (.string op) ∧ w'.cell? ⟨B, 1, none⟩ = some (.bool b) ∧ w'.cell? ⟨B, 2, none⟩ = some (.int .i64 m) ∧ w'.cell? ⟨B, 3, none⟩ = some (.int .i64 r) ∧ w'.cell? ⟨B, 4, none⟩ = some (.int .i64 n) ∧ w'.cell? ⟨B, 5, none⟩ = some (.bool l) ∧ w'.cell? ⟨B, 6, none⟩ = some (.int .i64 m2) ∧ w'.cell? ⟨B, 7, none⟩ = some (.int .i64 r2) ∧ w'.cell? ⟨B, 8, none⟩ = some (.int .i64 n2) ∧ w'.cell? ⟨B, 9, none⟩ = some (.bool l2) ∧ w'.cell? ⟨B, 10, none⟩ = some (.int .i64 j)) (exact cells11 (by repeat (first | with_reducible exact HIc.out | with_reducible apply heap_drewn))) (first
    | (go_at_call 16; refine (specEncode_any op b m r n l m2 r2 n2 l2 j _).mono ?_; rintro e xc ⟨v3, rfl, ho, hb⟩; have HIc : Hid (_ = _) := heap_keep (by repeat (first | with_reducible exact HIc.out | with_reducible apply heap_drewn)) hb; have HBc : Hid (Below w.heap.size w xc) := below_call (by repeat (first | with_reducible exact HBc.out | with_reducible refine Below.drew ?_)) hb; have HOc : Hid (ReadI xc va LL) := ReadI.below (by repeat (first | with_reducible exact HOc.out | with_reducible apply ReadI.drewn)) hb; rw [HLe.out] at ho; obtain ⟨vb, vd, rfl, hR⟩ := own_read ho; have HP3 : Hid (ReadI xc vb LL) := hR; clear ho hR; clear hb)
    | (go_at_call 15; refine (lwWords_any va vb vc vd LL LL _ HOc.out HP3.out (by omega) (by omega)).mono ?_; rintro e xc ⟨rfl, hb⟩; have HIc : Hid (_ = _) := heap_keep (by repeat (first | with_reducible exact HIc.out | with_reducible apply heap_drewn)) hb; have HBc : Hid (Below w.heap.size w xc) := below_call (by repeat (first | with_reducible exact HBc.out | with_reducible refine Below.drew ?_)) hb; have HOc : Hid (ReadI xc va LL) := ReadI.below (by repeat (first | with_reducible exact HOc.out | with_reducible apply ReadI.drewn)) hb; clear hb; rw [decide_eq_true rfl])
    | (go_at_call 17; refine (implRight_any op b m r n l m2 r2 n2 l2 j _ (by repeat (first | with_reducible exact HT.out.below HBc.out | with_reducible apply Tabs.drewn))).mono ?_; rintro e xc ⟨rfl, hb⟩; have HIc : Hid (_ = _) := heap_keep (by repeat (first | with_reducible exact HIc.out | with_reducible apply heap_drewn)) hb; have HBc : Hid (Below w.heap.size w xc) := below_call (by repeat (first | with_reducible exact HBc.out | with_reducible refine Below.drew ?_)) hb; have HOc : Hid (ReadI xc va LL) := ReadI.below (by repeat (first | with_reducible exact HOc.out | with_reducible apply ReadI.drewn)) hb; clear hb)
    | (go_at_call 18; refine (specRight_any op b m r n l m2 r2 n2 l2 j _).mono ?_; rintro e xc ⟨rfl, hb⟩; have HIc : Hid (_ = _) := heap_keep (by repeat (first | with_reducible exact HIc.out | with_reducible apply heap_drewn)) hb; have HBc : Hid (Below w.heap.size w xc) := below_call (by repeat (first | with_reducible exact HBc.out | with_reducible refine Below.drew ?_)) hb; have HOc : Hid (ReadI xc va LL) := ReadI.below (by repeat (first | with_reducible exact HOc.out | with_reducible apply ReadI.drewn)) hb; clear hb)
    | (go_at_call 19; refine (implOps_any _ (opsTab_of (by repeat (first | with_reducible exact HT.out.below HBc.out | with_reducible apply Tabs.drewn)))).mono ?_; rintro e xc ⟨v4, rfl, ho4, hb⟩; have HIc : Hid (_ = _) := heap_keep (by repeat (first | with_reducible exact HIc.out | with_reducible apply heap_drewn)) hb; have HBc : Hid (Below w.heap.size w xc) := below_call (by repeat (first | with_reducible exact HBc.out | with_reducible refine Below.drew ?_)) hb; have HOc : Hid (ReadI xc va LL) := ReadI.below (by repeat (first | with_reducible exact HOc.out | with_reducible apply ReadI.drewn)) hb; obtain ⟨vo, vq, rfl⟩ := ops_slice ho4; clear ho4; clear hb))
  cases hN : insnB op b m r n l m2 r2 n2 l2 j
  · have hL0 : LL = [] := by have h := HLe.out; unfold allI at h; rw [hN] at h; exact h.symm
    subst hL0
    clear hN
    go_wp2_with fail
    refine (drawDecode_any a1 len1 cap1 _ (HA1.out.below HBc.out)).mono ?_
    rintro e y ⟨vy, L, rfl, ho, hLy, hb⟩
    obtain ⟨ua, uc, rfl, hR⟩ := own_read ho
    have huc : L.length ≤ uc := by
      rcases ho.form with ⟨e1, e2⟩ | ⟨g2, c2, _, e2, _, _, h4, _⟩
      · subst e2; simp
      · cases e2; exact h4
    have hun : ua = none → L.length = 0 := fun e => by
      rcases ho.form with ⟨_, e2⟩ | ⟨g2, c2, _, e2, _⟩
      · rw [e2]; rfl
      · subst e; cases e2
    have HRy : Hid (ReadI y ua L) := hR
    have HBy : Hid (Below w.heap.size w y) := below_call HBc.out hb
    have hLm : L.length ≤ maxLen := by unfold maxLen; omega
    clear hb ho hR
    go_wp2_with fail
    refine (implDecode_any ua L uc _ hLm HRy.out (HT.out.below HBy.out)).mono ?_
    rintro e y ⟨rfl, hb⟩
    have HRy : Hid (ReadI y ua L) := HRy.out.below hb
    have HBy : Hid (Below w.heap.size w y) := below_call HBy.out hb
    clear hb
    rcases decAll_back L with ⟨c, hc, he⟩ | ⟨⟨op', b', m', r', n', l', m2', r2', n2', l2', j'⟩, k, he, hk, hk1, hr, henc⟩
    · have HE : Hid (decAll L = #[.string ⟨#[]⟩, .bool false, .int .i64 0, .int .i64 0, .int .i64 0, .bool false, .int .i64 0, .int .i64 0, .int .i64 0, .bool false, .int .i64 0, .int .i64 0, .int .i64 c]) := he
      clear he
      rw [HE.out]
      go_wp2_with fail
      have HIy : Hid (_ = _) := heap_alloc_new y (.cells #[.string ⟨#[]⟩, .bool false, .int .i64 0, .int .i64 0, .int .i64 0, .bool false, .int .i64 0, .int .i64 0, .int .i64 0, .bool false, .int .i64 0, .int .i64 0, .int .i64 c] 46)
      have HBy : Hid (Below w.heap.size w _) := below_more HBy.out (.cells #[.string ⟨#[]⟩, .bool false, .int .i64 0, .int .i64 0, .int .i64 0, .bool false, .int .i64 0, .int .i64 0, .int .i64 0, .bool false, .int .i64 0, .int .i64 0, .int .i64 c] 46)
      have HRy : Hid (ReadI _ ua L) := HRy.out.alloc (.cells #[.string ⟨#[]⟩, .bool false, .int .i64 0, .int .i64 0, .int .i64 0, .bool false, .int .i64 0, .int .i64 0, .int .i64 0, .bool false, .int .i64 0, .int .i64 0, .int .i64 c] 46)
      generalize y.alloc (.cells #[.string ⟨#[]⟩, .bool false, .int .i64 0, .int .i64 0, .int .i64 0, .bool false, .int .i64 0, .int .i64 0, .int .i64 0, .bool false, .int .i64 0, .int .i64 0, .int .i64 c] 46) = yy at *
      generalize y.heap.size = D at *
      obtain ⟨q0, q1, q2, q3, q4, q5, q6, q7, q8, q9, q10, q11, q12⟩ := cellsD HIy.out
      go_region_held3 (fun w' => w'.cell? ⟨D, 0, none⟩ = some (.string ⟨#[]⟩) ∧ w'.cell? ⟨D, 1, none⟩ = some (.bool false) ∧ w'.cell? ⟨D, 2, none⟩ = some (.int .i64 0) ∧ w'.cell? ⟨D, 3, none⟩ = some (.int .i64 0) ∧ w'.cell? ⟨D, 4, none⟩ = some (.int .i64 0) ∧ w'.cell? ⟨D, 5, none⟩ = some (.bool false) ∧ w'.cell? ⟨D, 6, none⟩ = some (.int .i64 0) ∧ w'.cell? ⟨D, 7, none⟩ = some (.int .i64 0) ∧ w'.cell? ⟨D, 8, none⟩ = some (.int .i64 0) ∧ w'.cell? ⟨D, 9, none⟩ = some (.bool false) ∧ w'.cell? ⟨D, 10, none⟩ = some (.int .i64 0) ∧ w'.cell? ⟨D, 11, none⟩ = some (.int .i64 0) ∧ w'.cell? ⟨D, 12, none⟩ = some (.int .i64 c)) (exact cellsD (by repeat (first | with_reducible exact HIy.out | with_reducible apply heap_drewn))) (first
        | (go_at_call 23; refine (specDecode_any ua L uc _ hLm (by repeat (first | with_reducible exact HRy.out | with_reducible apply ReadI.drewn))).mono ?_; rintro e y ⟨rfl, hb⟩; have HIy : Hid (_ = _) := heap_keep (by repeat (first | with_reducible exact HIy.out | with_reducible apply heap_drewn)) hb; have HBy : Hid (Below w.heap.size w y) := below_call (by repeat (first | with_reducible exact HBy.out | with_reducible refine Below.drew ?_)) hb; have HRy : Hid (ReadI y ua L) := ReadI.below (by repeat (first | with_reducible exact HRy.out | with_reducible apply ReadI.drewn)) hb; clear hb; rw [HE.out]))
      clear q0 q1 q2 q3 q4 q5 q6 q7 q8 q9 q10 q11 q12
      obtain ⟨q0, q1, q2, q3, q4, q5, q6, q7, q8, q9, q10, q11, q12⟩ := cellsD HIy.out
      clear q0 q1 q2 q3 q4 q5 q6 q7 q8 q9 q10 q11
      have hc0 : (c != 0) = true := by rw [bne_iff_ne]; omega
      clear hc
      go_wp2_with fail
      go_quiet (fail)
      go_wp2
      go_ret
      exact ⟨rfl, below_drewN HBy.out _⟩
    · have HEN : Hid (allI op' b' m' r' n' l' m2' r2' n2' l2' j' = L.take k) := by
        show _ = _
        unfold allI
        have h2 : insnB op' b' m' r' n' l' m2' r2' n2' l2' j' = true := hr
        rw [if_pos h2]
        exact henc
      have hki : (k : Int) ≤ (L.length : Int) := by omega
      have hcut := cutI ua L.length uc k (by omega) (fun e => by have := hun e; omega)
      have HTk : Hid ((L.take k).length = k) := by show _ = _; simp; omega
      clear hr henc hun huc
      have HE : Hid (decAll L = #[.string op', .bool b', .int .i64 m', .int .i64 r', .int .i64 n', .bool l', .int .i64 m2', .int .i64 r2', .int .i64 n2', .bool l2', .int .i64 j', .int .i64 (k : Int), .int .i64 0]) := he
      clear he
      rw [HE.out]
      go_wp2_with fail
      have HIy : Hid (_ = _) := heap_alloc_new y (.cells #[.string op', .bool b', .int .i64 m', .int .i64 r', .int .i64 n', .bool l', .int .i64 m2', .int .i64 r2', .int .i64 n2', .bool l2', .int .i64 j', .int .i64 (k : Int), .int .i64 0] 46)
      have HBy : Hid (Below w.heap.size w _) := below_more HBy.out (.cells #[.string op', .bool b', .int .i64 m', .int .i64 r', .int .i64 n', .bool l', .int .i64 m2', .int .i64 r2', .int .i64 n2', .bool l2', .int .i64 j', .int .i64 (k : Int), .int .i64 0] 46)
      have HRy : Hid (ReadI _ ua L) := HRy.out.alloc (.cells #[.string op', .bool b', .int .i64 m', .int .i64 r', .int .i64 n', .bool l', .int .i64 m2', .int .i64 r2', .int .i64 n2', .bool l2', .int .i64 j', .int .i64 (k : Int), .int .i64 0] 46)
      generalize y.alloc (.cells #[.string op', .bool b', .int .i64 m', .int .i64 r', .int .i64 n', .bool l', .int .i64 m2', .int .i64 r2', .int .i64 n2', .bool l2', .int .i64 j', .int .i64 (k : Int), .int .i64 0] 46) = yy at *
      generalize y.heap.size = D at *
      obtain ⟨q0, q1, q2, q3, q4, q5, q6, q7, q8, q9, q10, q11, q12⟩ := cellsD HIy.out
      go_region_held3 (fun w' => w'.cell? ⟨D, 0, none⟩ = some (.string op') ∧ w'.cell? ⟨D, 1, none⟩ = some (.bool b') ∧ w'.cell? ⟨D, 2, none⟩ = some (.int .i64 m') ∧ w'.cell? ⟨D, 3, none⟩ = some (.int .i64 r') ∧ w'.cell? ⟨D, 4, none⟩ = some (.int .i64 n') ∧ w'.cell? ⟨D, 5, none⟩ = some (.bool l') ∧ w'.cell? ⟨D, 6, none⟩ = some (.int .i64 m2') ∧ w'.cell? ⟨D, 7, none⟩ = some (.int .i64 r2') ∧ w'.cell? ⟨D, 8, none⟩ = some (.int .i64 n2') ∧ w'.cell? ⟨D, 9, none⟩ = some (.bool l2') ∧ w'.cell? ⟨D, 10, none⟩ = some (.int .i64 j') ∧ w'.cell? ⟨D, 11, none⟩ = some (.int .i64 (k : Int)) ∧ w'.cell? ⟨D, 12, none⟩ = some (.int .i64 0)) (exact cellsD (by repeat (first | with_reducible exact HIy.out | with_reducible apply heap_drewn))) (first
        | (go_at_call 23; refine (specDecode_any ua L uc _ hLm (by repeat (first | with_reducible exact HRy.out | with_reducible apply ReadI.drewn))).mono ?_; rintro e y ⟨rfl, hb⟩; have HIy : Hid (_ = _) := heap_keep (by repeat (first | with_reducible exact HIy.out | with_reducible apply heap_drewn)) hb; have HBy : Hid (Below w.heap.size w y) := below_call (by repeat (first | with_reducible exact HBy.out | with_reducible refine Below.drew ?_)) hb; have HRy : Hid (ReadI y ua L) := ReadI.below (by repeat (first | with_reducible exact HRy.out | with_reducible apply ReadI.drewn)) hb; clear hb; rw [HE.out]))
      clear q0 q1 q2 q3 q4 q5 q6 q7 q8 q9 q10 q11 q12
      obtain ⟨q0, q1, q2, q3, q4, q5, q6, q7, q8, q9, q10, q11, q12⟩ := cellsD HIy.out
      go_wp2_with fail
      go_region_held3 (fun w' => w'.cell? ⟨D, 0, none⟩ = some (.string op') ∧ w'.cell? ⟨D, 1, none⟩ = some (.bool b') ∧ w'.cell? ⟨D, 2, none⟩ = some (.int .i64 m') ∧ w'.cell? ⟨D, 3, none⟩ = some (.int .i64 r') ∧ w'.cell? ⟨D, 4, none⟩ = some (.int .i64 n') ∧ w'.cell? ⟨D, 5, none⟩ = some (.bool l') ∧ w'.cell? ⟨D, 6, none⟩ = some (.int .i64 m2') ∧ w'.cell? ⟨D, 7, none⟩ = some (.int .i64 r2') ∧ w'.cell? ⟨D, 8, none⟩ = some (.int .i64 n2') ∧ w'.cell? ⟨D, 9, none⟩ = some (.bool l2') ∧ w'.cell? ⟨D, 10, none⟩ = some (.int .i64 j') ∧ w'.cell? ⟨D, 11, none⟩ = some (.int .i64 (k : Int)) ∧ w'.cell? ⟨D, 12, none⟩ = some (.int .i64 0)) (exact cellsD (by repeat (first | with_reducible exact HIy.out | with_reducible apply heap_drewn))) (first
        | (go_at_call 14; refine (implEncode_any op' b' m' r' n' l' m2' r2' n2' l2' j' _ (by repeat (first | with_reducible exact HT.out.below HBy.out | with_reducible apply Tabs.drewn))).mono ?_; rintro e y ⟨ve, rfl, ho, hb⟩; have HIy : Hid (_ = _) := heap_keep (by repeat (first | with_reducible exact HIy.out | with_reducible apply heap_drewn)) hb; have HBy : Hid (Below w.heap.size w y) := below_call (by repeat (first | with_reducible exact HBy.out | with_reducible refine Below.drew ?_)) hb; have HRy : Hid (ReadI y ua L) := ReadI.below (by repeat (first | with_reducible exact HRy.out | with_reducible apply ReadI.drewn)) hb; rw [HEN.out] at ho; obtain ⟨ea, ec, hve, hR⟩ := own_read ho; rw [HTk.out] at hve; subst hve; have HPy : Hid (ReadI y ea (L.take k)) := hR; clear ho hR; clear hb)
        | (go_at_call 15; refine (lw_take HRy.out HPy.out HTk.out (by omega)).mono ?_; rintro e y ⟨rfl, hb⟩; have HIy : Hid (_ = _) := heap_keep (by repeat (first | with_reducible exact HIy.out | with_reducible apply heap_drewn)) hb; have HBy : Hid (Below w.heap.size w y) := below_call (by repeat (first | with_reducible exact HBy.out | with_reducible refine Below.drew ?_)) hb; have HRy : Hid (ReadI y ua L) := ReadI.below (by repeat (first | with_reducible exact HRy.out | with_reducible apply ReadI.drewn)) hb; clear hb))
      go_wp2
      go_ret
      exact ⟨rfl, HBy.out⟩
  · have HEi : Hid (LL = Ins.enc ⟨op, b, m, r, n, l, m2, r2, n2, l2, j⟩) := by have h := HLe.out; unfold allI at h; rw [hN] at h; exact h.symm
    have HNi : Hid (Ins.right ⟨op, b, m, r, n, l, m2, r2, n2, l2, j⟩ = true) := hN
    have hL1 : 1 ≤ LL.length := by rw [HEi.out]; exact (enc_len _).1
    clear hN
    have hpos : (0 : Int) < (LL.length : Int) := by omega
    obtain ⟨x, rfl, hx, hcell⟩ := HOc.out (by omega)
    have HCx : Hid (∀ i (h : i < LL.length), xc.cell? (x.add i) = some (.int .i64 LL[i])) := hcell
    have hvc : LL.length ≤ vc := by
      rcases HOw.out.form with ⟨e1, e2⟩ | ⟨g2, c2, _, e2, _, _, h4, _⟩
      · subst e2; simp
      · cases e2; exact h4
    obtain ⟨i0, hi, hz0, hz1', hz2'⟩ := info_parts infoI
    have HX : Hid (x.block < xc.heap.size) := hx
    clear hcell hx
    go_wp2_with (at_builtin; refine wpList_append_own _ rfl (.tmp 42) (.tmp 43) 39 rfl xc.heap.size 2 i0 (.int .i64 0) 1 8 Tryd.underlying39 hi hz0 hz1' hz2' rfl (by decide) _ _ _ rfl (own_empty (Below.refl _ xc) rfl) x LL.length vc (cellsI LL) rfl (by simp [cellsI]) (newsI (fun i h => ((below_new xc _).cell (by rw [add_blockI]; exact HX.out)).trans (HCx.out i h))) (cellsI_one _) (by simp [maxLen]; omega) (by simp; omega) (by simp) ?_; intro v2 w2 hown2 hgrow2 _)
    have HO2 : Hid (OwnI w2 xc.heap.size v2 LL) := by show OwnI _ _ _ _; simpa [OwnI, cellsI] using hown2
    have HQ2 : Hid (Below xc.heap.size xc w2) := (below_new xc _).grown hgrow2 (by simp) (fun q hq => ((own_empty (Below.refl _ xc) rfl).lt q hq).1)
    have hs2 := HQ2.out.size
    clear hown2 hgrow2
    refine (lwAt0_any a1 len1 cap1 256 _ (HA1.out.below (below_call HBc.out HQ2.out)) (by omega) (by omega)).mono ?_
    rintro e w2' ⟨u, rfl, hu0, _, hu1, hw⟩
    have hw2 := hw.symm
    subst hw2
    clear hw
    go_wp2_with (at_builtin; refine wpList_append_own _ rfl (.tmp 44) (.tmp 47) 39 rfl xc.heap.size 2 i0 (.int .i64 0) 1 8 Tryd.underlying39 hi hz0 hz1' hz2' rfl (by decide) _ _ _ rfl (HO2.out.alloc _) ⟨w2.heap.size, 0, none⟩ 2 2 [.int .i64 u, .int .i64 65535] rfl rfl (two_news w2 u 65535 _) (one_two _ _) (by simp [maxLen]; omega) (by omega) (by simp; omega) ?_; intro v3 w3 hown3 hgrow3 _)
    have ho3 : OwnI w3 xc.heap.size v3 (LL ++ [u, 65535]) := by unfold OwnI; rw [List.length_append]; simpa [cellsI] using hown3
    have HQ3 : Hid (Below xc.heap.size xc w3) := (below_more HQ2.out _).grown hgrow3 (by simp; omega) (fun q hq => (HO2.out.lt q hq).1)
    obtain ⟨ta, tc, rfl, hR3⟩ := own_read ho3
    clear hown3 hgrow3 ho3 HO2 HQ2 hi hz0 hz1' hz2'
    have HDE : Hid (decAll (LL ++ [u, 65535]) = outV (Ins.vals ⟨op, b, m, r, n, l, m2, r2, n2, l2, j⟩) (LL.length : Int) 0) := by
      show _ = _
      rw [HEi.out]
      exact decAll_enc _ HNi.out _ (fun z hz => by simp at hz; rcases hz with rfl | rfl <;> (rw [isB_iff]; omega)) (by simp)
    have HDE2 : Hid (decAll (LL ++ [u, 65535]) = #[.string op, .bool b, .int .i64 m, .int .i64 r, .int .i64 n, .bool l, .int .i64 m2, .int .i64 r2, .int .i64 n2, .bool l2, .int .i64 j, .int .i64 (LL.length : Int), .int .i64 0]) := HDE.out
    clear HDE
    refine (implDecode_any ta (LL ++ [u, 65535]) tc _ (by simp [maxLen]; omega) hR3 (HT.out.below (below_call HBc.out HQ3.out))).mono ?_
    rintro e x4 ⟨rfl, hb⟩
    rw [HDE2.out]
    have HIc : Hid (_ = _) := heap_keep (heap_keep HIc.out HQ3.out) hb
    have HBc : Hid (Below w.heap.size w x4) := below_call (below_call HBc.out HQ3.out) hb
    have HOc : Hid (ReadI x4 (some x) LL) := (HOc.out.below HQ3.out).below hb
    clear hb hR3 HQ3 c0 c1 c2 c3 c4 c5 c6 c7 c8 c9 c10
    obtain ⟨c0, c1, c2, c3, c4, c5, c6, c7, c8, c9, c10⟩ := cells11 HIc.out
    have hzB := heap_lt HIc.out
    have hzB' : B ≠ x4.heap.size := Nat.ne_of_lt hzB
    have HDC : Hid (decAll LL.dropLast = #[.string ⟨#[]⟩, .bool false, .int .i64 0, .int .i64 0, .int .i64 0, .bool false, .int .i64 0, .int .i64 0, .int .i64 0, .bool false, .int .i64 0, .int .i64 0, .int .i64 4]) := by
      show _ = _
      rw [HEi.out]
      exact decAll_cut _ HNi.out
    have hcut : ∀ W : World, (Instr.slice 39 (.slice (some x) LL.length vc) none (some (.int .i64 ((LL.length : Int) - 1))) none).run Tryd.prog W = .ok (.slice (some x) (LL.length - 1) vc) W := fun W => by
      have h := cutI (some x) LL.length vc (LL.length - 1) (by omega) (fun e => by cases e) W
      rw [show ((LL.length - 1 : Nat) : Int) = (LL.length : Int) - 1 by omega] at h
      exact h
    go_wp2_with fail
    refine (decode_cut x LL vc _ (by omega) (HOc.out.alloc _) (HT.out.below (below_more HBc.out _)) _ HDC.out).mono ?_
    rintro e x5 ⟨rfl, hb⟩
    have HBc : Hid (Below w.heap.size w x5) := below_call (below_more HBc.out _) hb
    clear hb hcut
    have hf := fun W => field_out (.string ⟨#[]⟩) (.bool false) (.int .i64 0) (.int .i64 0) (.int .i64 0) (.bool false) (.int .i64 0) (.int .i64 0) (.int .i64 0) (.bool false) (.int .i64 0) (.int .i64 0) (.int .i64 4) W
    go_wp2_with fail
    refine (drawDecode_any a1 len1 cap1 _ (HA1.out.below HBc.out)).mono ?_
    rintro e y ⟨vy, L, rfl, ho, hLy, hb⟩
    obtain ⟨ua, uc, rfl, hR⟩ := own_read ho
    have huc : L.length ≤ uc := by
      rcases ho.form with ⟨e1, e2⟩ | ⟨g2, c2, _, e2, _, _, h4, _⟩
      · subst e2; simp
      · cases e2; exact h4
    have hun : ua = none → L.length = 0 := fun e => by
      rcases ho.form with ⟨_, e2⟩ | ⟨g2, c2, _, e2, _⟩
      · rw [e2]; rfl
      · subst e; cases e2
    have HRy : Hid (ReadI y ua L) := hR
    have HBy : Hid (Below w.heap.size w y) := below_call HBc.out hb
    have hLm : L.length ≤ maxLen := by unfold maxLen; omega
    clear hb ho hR
    go_wp2_with fail
    refine (implDecode_any ua L uc _ hLm HRy.out (HT.out.below HBy.out)).mono ?_
    rintro e y ⟨rfl, hb⟩
    have HRy : Hid (ReadI y ua L) := HRy.out.below hb
    have HBy : Hid (Below w.heap.size w y) := below_call HBy.out hb
    clear hb
    rcases decAll_back L with ⟨c, hc, he⟩ | ⟨⟨op', b', m', r', n', l', m2', r2', n2', l2', j'⟩, k, he, hk, hk1, hr, henc⟩
    · have HE : Hid (decAll L = #[.string ⟨#[]⟩, .bool false, .int .i64 0, .int .i64 0, .int .i64 0, .bool false, .int .i64 0, .int .i64 0, .int .i64 0, .bool false, .int .i64 0, .int .i64 0, .int .i64 c]) := he
      clear he
      rw [HE.out]
      go_wp2_with fail
      have HIy : Hid (_ = _) := heap_alloc_new y (.cells #[.string ⟨#[]⟩, .bool false, .int .i64 0, .int .i64 0, .int .i64 0, .bool false, .int .i64 0, .int .i64 0, .int .i64 0, .bool false, .int .i64 0, .int .i64 0, .int .i64 c] 46)
      have HBy : Hid (Below w.heap.size w _) := below_more HBy.out (.cells #[.string ⟨#[]⟩, .bool false, .int .i64 0, .int .i64 0, .int .i64 0, .bool false, .int .i64 0, .int .i64 0, .int .i64 0, .bool false, .int .i64 0, .int .i64 0, .int .i64 c] 46)
      have HRy : Hid (ReadI _ ua L) := HRy.out.alloc (.cells #[.string ⟨#[]⟩, .bool false, .int .i64 0, .int .i64 0, .int .i64 0, .bool false, .int .i64 0, .int .i64 0, .int .i64 0, .bool false, .int .i64 0, .int .i64 0, .int .i64 c] 46)
      generalize y.alloc (.cells #[.string ⟨#[]⟩, .bool false, .int .i64 0, .int .i64 0, .int .i64 0, .bool false, .int .i64 0, .int .i64 0, .int .i64 0, .bool false, .int .i64 0, .int .i64 0, .int .i64 c] 46) = yy at *
      generalize y.heap.size = D at *
      obtain ⟨q0, q1, q2, q3, q4, q5, q6, q7, q8, q9, q10, q11, q12⟩ := cellsD HIy.out
      go_region_held3 (fun w' => w'.cell? ⟨D, 0, none⟩ = some (.string ⟨#[]⟩) ∧ w'.cell? ⟨D, 1, none⟩ = some (.bool false) ∧ w'.cell? ⟨D, 2, none⟩ = some (.int .i64 0) ∧ w'.cell? ⟨D, 3, none⟩ = some (.int .i64 0) ∧ w'.cell? ⟨D, 4, none⟩ = some (.int .i64 0) ∧ w'.cell? ⟨D, 5, none⟩ = some (.bool false) ∧ w'.cell? ⟨D, 6, none⟩ = some (.int .i64 0) ∧ w'.cell? ⟨D, 7, none⟩ = some (.int .i64 0) ∧ w'.cell? ⟨D, 8, none⟩ = some (.int .i64 0) ∧ w'.cell? ⟨D, 9, none⟩ = some (.bool false) ∧ w'.cell? ⟨D, 10, none⟩ = some (.int .i64 0) ∧ w'.cell? ⟨D, 11, none⟩ = some (.int .i64 0) ∧ w'.cell? ⟨D, 12, none⟩ = some (.int .i64 c)) (exact cellsD (by repeat (first | with_reducible exact HIy.out | with_reducible apply heap_drewn))) (first
        | (go_at_call 23; refine (specDecode_any ua L uc _ hLm (by repeat (first | with_reducible exact HRy.out | with_reducible apply ReadI.drewn))).mono ?_; rintro e y ⟨rfl, hb⟩; have HIy : Hid (_ = _) := heap_keep (by repeat (first | with_reducible exact HIy.out | with_reducible apply heap_drewn)) hb; have HBy : Hid (Below w.heap.size w y) := below_call (by repeat (first | with_reducible exact HBy.out | with_reducible refine Below.drew ?_)) hb; have HRy : Hid (ReadI y ua L) := ReadI.below (by repeat (first | with_reducible exact HRy.out | with_reducible apply ReadI.drewn)) hb; clear hb; rw [HE.out]))
      clear q0 q1 q2 q3 q4 q5 q6 q7 q8 q9 q10 q11 q12
      obtain ⟨q0, q1, q2, q3, q4, q5, q6, q7, q8, q9, q10, q11, q12⟩ := cellsD HIy.out
      clear q0 q1 q2 q3 q4 q5 q6 q7 q8 q9 q10 q11
      have hc0 : (c != 0) = true := by rw [bne_iff_ne]; omega
      clear hc
      go_wp2_with fail
      go_quiet (fail)
      go_wp2
      go_ret
      exact ⟨rfl, below_drewN HBy.out _⟩
    · have HEN : Hid (allI op' b' m' r' n' l' m2' r2' n2' l2' j' = L.take k) := by
        show _ = _
        unfold allI
        have h2 : insnB op' b' m' r' n' l' m2' r2' n2' l2' j' = true := hr
        rw [if_pos h2]
        exact henc
      have hki : (k : Int) ≤ (L.length : Int) := by omega
      have hcut := cutI ua L.length uc k (by omega) (fun e => by have := hun e; omega)
      have HTk : Hid ((L.take k).length = k) := by show _ = _; simp; omega
      clear hr henc hun huc
      have HE : Hid (decAll L = #[.string op', .bool b', .int .i64 m', .int .i64 r', .int .i64 n', .bool l', .int .i64 m2', .int .i64 r2', .int .i64 n2', .bool l2', .int .i64 j', .int .i64 (k : Int), .int .i64 0]) := he
      clear he
      rw [HE.out]
      go_wp2_with fail
      have HIy : Hid (_ = _) := heap_alloc_new y (.cells #[.string op', .bool b', .int .i64 m', .int .i64 r', .int .i64 n', .bool l', .int .i64 m2', .int .i64 r2', .int .i64 n2', .bool l2', .int .i64 j', .int .i64 (k : Int), .int .i64 0] 46)
      have HBy : Hid (Below w.heap.size w _) := below_more HBy.out (.cells #[.string op', .bool b', .int .i64 m', .int .i64 r', .int .i64 n', .bool l', .int .i64 m2', .int .i64 r2', .int .i64 n2', .bool l2', .int .i64 j', .int .i64 (k : Int), .int .i64 0] 46)
      have HRy : Hid (ReadI _ ua L) := HRy.out.alloc (.cells #[.string op', .bool b', .int .i64 m', .int .i64 r', .int .i64 n', .bool l', .int .i64 m2', .int .i64 r2', .int .i64 n2', .bool l2', .int .i64 j', .int .i64 (k : Int), .int .i64 0] 46)
      generalize y.alloc (.cells #[.string op', .bool b', .int .i64 m', .int .i64 r', .int .i64 n', .bool l', .int .i64 m2', .int .i64 r2', .int .i64 n2', .bool l2', .int .i64 j', .int .i64 (k : Int), .int .i64 0] 46) = yy at *
      generalize y.heap.size = D at *
      obtain ⟨q0, q1, q2, q3, q4, q5, q6, q7, q8, q9, q10, q11, q12⟩ := cellsD HIy.out
      go_region_held3 (fun w' => w'.cell? ⟨D, 0, none⟩ = some (.string op') ∧ w'.cell? ⟨D, 1, none⟩ = some (.bool b') ∧ w'.cell? ⟨D, 2, none⟩ = some (.int .i64 m') ∧ w'.cell? ⟨D, 3, none⟩ = some (.int .i64 r') ∧ w'.cell? ⟨D, 4, none⟩ = some (.int .i64 n') ∧ w'.cell? ⟨D, 5, none⟩ = some (.bool l') ∧ w'.cell? ⟨D, 6, none⟩ = some (.int .i64 m2') ∧ w'.cell? ⟨D, 7, none⟩ = some (.int .i64 r2') ∧ w'.cell? ⟨D, 8, none⟩ = some (.int .i64 n2') ∧ w'.cell? ⟨D, 9, none⟩ = some (.bool l2') ∧ w'.cell? ⟨D, 10, none⟩ = some (.int .i64 j') ∧ w'.cell? ⟨D, 11, none⟩ = some (.int .i64 (k : Int)) ∧ w'.cell? ⟨D, 12, none⟩ = some (.int .i64 0)) (exact cellsD (by repeat (first | with_reducible exact HIy.out | with_reducible apply heap_drewn))) (first
        | (go_at_call 23; refine (specDecode_any ua L uc _ hLm (by repeat (first | with_reducible exact HRy.out | with_reducible apply ReadI.drewn))).mono ?_; rintro e y ⟨rfl, hb⟩; have HIy : Hid (_ = _) := heap_keep (by repeat (first | with_reducible exact HIy.out | with_reducible apply heap_drewn)) hb; have HBy : Hid (Below w.heap.size w y) := below_call (by repeat (first | with_reducible exact HBy.out | with_reducible refine Below.drew ?_)) hb; have HRy : Hid (ReadI y ua L) := ReadI.below (by repeat (first | with_reducible exact HRy.out | with_reducible apply ReadI.drewn)) hb; clear hb; rw [HE.out]))
      clear q0 q1 q2 q3 q4 q5 q6 q7 q8 q9 q10 q11 q12
      obtain ⟨q0, q1, q2, q3, q4, q5, q6, q7, q8, q9, q10, q11, q12⟩ := cellsD HIy.out
      go_wp2_with fail
      go_region_held3 (fun w' => w'.cell? ⟨D, 0, none⟩ = some (.string op') ∧ w'.cell? ⟨D, 1, none⟩ = some (.bool b') ∧ w'.cell? ⟨D, 2, none⟩ = some (.int .i64 m') ∧ w'.cell? ⟨D, 3, none⟩ = some (.int .i64 r') ∧ w'.cell? ⟨D, 4, none⟩ = some (.int .i64 n') ∧ w'.cell? ⟨D, 5, none⟩ = some (.bool l') ∧ w'.cell? ⟨D, 6, none⟩ = some (.int .i64 m2') ∧ w'.cell? ⟨D, 7, none⟩ = some (.int .i64 r2') ∧ w'.cell? ⟨D, 8, none⟩ = some (.int .i64 n2') ∧ w'.cell? ⟨D, 9, none⟩ = some (.bool l2') ∧ w'.cell? ⟨D, 10, none⟩ = some (.int .i64 j') ∧ w'.cell? ⟨D, 11, none⟩ = some (.int .i64 (k : Int)) ∧ w'.cell? ⟨D, 12, none⟩ = some (.int .i64 0)) (exact cellsD (by repeat (first | with_reducible exact HIy.out | with_reducible apply heap_drewn))) (first
        | (go_at_call 14; refine (implEncode_any op' b' m' r' n' l' m2' r2' n2' l2' j' _ (by repeat (first | with_reducible exact HT.out.below HBy.out | with_reducible apply Tabs.drewn))).mono ?_; rintro e y ⟨ve, rfl, ho, hb⟩; have HIy : Hid (_ = _) := heap_keep (by repeat (first | with_reducible exact HIy.out | with_reducible apply heap_drewn)) hb; have HBy : Hid (Below w.heap.size w y) := below_call (by repeat (first | with_reducible exact HBy.out | with_reducible refine Below.drew ?_)) hb; have HRy : Hid (ReadI y ua L) := ReadI.below (by repeat (first | with_reducible exact HRy.out | with_reducible apply ReadI.drewn)) hb; rw [HEN.out] at ho; obtain ⟨ea, ec, hve, hR⟩ := own_read ho; rw [HTk.out] at hve; subst hve; have HPy : Hid (ReadI y ea (L.take k)) := hR; clear ho hR; clear hb)
        | (go_at_call 15; refine (lw_take HRy.out HPy.out HTk.out (by omega)).mono ?_; rintro e y ⟨rfl, hb⟩; have HIy : Hid (_ = _) := heap_keep (by repeat (first | with_reducible exact HIy.out | with_reducible apply heap_drewn)) hb; have HBy : Hid (Below w.heap.size w y) := below_call (by repeat (first | with_reducible exact HBy.out | with_reducible refine Below.drew ?_)) hb; have HRy : Hid (ReadI y ua L) := ReadI.below (by repeat (first | with_reducible exact HRy.out | with_reducible apply ReadI.drewn)) hb; clear hb))
      go_wp2
      go_ret
      exact ⟨rfl, HBy.out⟩
end Go.Proofs.YtdokiccfjbieiaaDoor
