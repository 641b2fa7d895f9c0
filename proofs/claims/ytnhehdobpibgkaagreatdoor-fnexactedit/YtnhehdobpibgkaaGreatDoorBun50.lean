/- shopOf, withRecord's like: a Shop of a text in new memory. -/
import Derived.Test.YtnhehdobpibgkaaGreatDoorRows
import Derived.WalkKit
import Derived.WalkSpells
import Derived.WalkLawsBesides
import Derived.Test.YtnhehdobpibgkaaGreatDoorBun0
import Derived.Test.YtnhehdobpibgkaaGreatDoorBun29
import Derived.Outline
import Derived.Test.YtnhehdobpibgkaaGreatDoorBun1
import Derived.Test.YtnhehdobpibgkaaGreatDoorBun3
import Derived.Test.YtnhehdobpibgkaaGreatDoorBun24
import Derived.RegionTactic
import Derived.BigRegion
import Derived.Deep.RegionHeld3
import Derived.Test.YtnhehdobpibgkaaGreatDoorBun2
import Derived.Test.YtnhehdobpibgkaaGreatDoorBun48
import Derived.Deep.RegionWith
namespace Go.Proofs.YtnhehdobpibgkaaGreatDoor
open Go.RowKit
set_option linter.unusedVariables false

theorem catL_oneX (a : ByteArray) : catL [a] = a := catL_one a
theorem join_oneN (a : ByteArray) (N : Nat) (x : World) (hN : x.heap.size = N) (h : a.size ≤ 400000000) : Calls Tryz.prog 55 #[.slice (some ⟨N, 0, none⟩) 1 1] (x.alloc (.cells #[.string a] 9)) fun e w' => e = .returned (.string a) ∧ Below x.heap.size x w' := by
  subst hN
  have h2 := join_new [a] 1 x rfl (by omega) (by rw [catL_one]; exact h)
  rw [catL_one] at h2
  exact h2
theorem join_twoN (a b : ByteArray) (N : Nat) (x : World) (hN : x.heap.size = N) (h : (a ++ b).size ≤ 400000000) : Calls Tryz.prog 55 #[.slice (some ⟨N, 0, none⟩) 2 2] (x.alloc (.cells #[.string a, .string b] 9)) fun e w' => e = .returned (.string (a ++ b)) ∧ Below x.heap.size x w' := by
  subst hN
  have h2 := join_new [a, b] 2 x rfl (by omega) (by rw [catL_two]; exact h)
  rw [catL_two] at h2
  exact h2
theorem ret_shop {g g' : ByteArray} {n n' : Int} (h : g = g') (k : n = n') : Ending.returned (.agg #[.string g, .int .i64 n]) = .returned (.agg #[.string g', .int .i64 n']) := by rw [h, k]
set_option maxRecDepth 100000 in
set_option maxHeartbeats 1600000 in
theorem shopOf_any (g : ByteArray) (n : Int) (w : World) (h : g.size ≤ 400000000) : Calls Tryz.prog 41 #[.string g, .int .i64 n] w fun e w' => e = .returned (.agg #[.string g, .int .i64 n]) ∧ Below w.heap.size w w' := by
  go_enter Tryz.func41, Tryz.ntmps41
  go_wp2_with fail
  refine (join_oneN g _ _ (by simp) h).mono ?_
  rintro e x ⟨rfl, hb⟩
  have HX : Hid (x.heap[w.heap.size]? = _) := heap_keep (heap_alloc_new w (.cells #[.string ⟨#[]⟩, .int .i64 0] 33)) hb
  have HB : Hid (Below w.heap.size w x) := below_call (below_new w _) hb
  obtain ⟨c0, c1, f0, f1⟩ := two_cells HX.out
  clear hb
  go_wp2
  exact bodyPost_ret (results_cell_row Tryz.results41 _ _ w.heap.size 33 _ (0, 0) _ rfl (set_two HX.out) Tryz.underlying33 rfl (by kernel_rfl)) rfl ⟨rfl, (HB.out.setCell (Nat.le_refl _) _).setCell (Nat.le_refl _) _⟩
end Go.Proofs.YtnhehdobpibgkaaGreatDoor
namespace Go.Proofs.YtnhehdobpibgkaaGreatDoor
open Go.RowKit
set_option linter.unusedVariables false

theorem idx_pos {L : List Src} {nm : ByteArray} {k : Nat} (h : idxL L nm = (k : Int)) : decide (0 ≤ idxL L nm) = true := by rw [h]; exact decide_eq_true (by omega)
set_option maxRecDepth 100000 in
set_option maxHeartbeats 1600000 in
theorem find_any (a : Option Addr) (L : List Src) (n cap : Nat) (nm : ByteArray) (w : World) (hR : RowIs 2 srcC w a L) (hn : L.length = n) (hl : n ≤ 2000000) : Calls Tryz.prog 38 #[.slice a n cap, .string nm] w fun e w' => (∃ k : Int, e = .returned (.tuple #[.int .i64 k, .bool (decide (0 ≤ idxL L nm))])) ∧ Below w.heap.size w w' := by
  subst hn
  have HR : Hid (RowIs 2 srcC w a L) := hR
  clear hR
  go_enter Tryz.func38, Tryz.ntmps38
  go_wp2
  go_loopw [10] (fun i wr => ∃ k : Nat, k ≤ L.length ∧ i = .int .i64 k ∧ Hid (∀ t (h : t < k) (h2 : t < L.length), ¬ L[t].1 = nm) ∧ Hid (Below w.heap.size w wr)) (fun i _ => L.length - (intOf i).toNat)
  case atStart => exact ⟨0, by omega, rfl, fun t h => by omega, Below.refl _ _⟩
  case round =>
    obtain ⟨k, hk, rfl, HF, HB⟩ := hrel
    by_cases hlt : k < L.length
    · obtain ⟨x, rfl, hx, hE⟩ := (HR.out.below HB.out).elem k hlt
      obtain ⟨c0, c1⟩ := ElemAt.two hE
      have hi0 : (0 : Int) ≤ (k : Int) := by omega
      have hi1 : (k : Int) < (L.length : Int) := by omega
      clear hE
      by_cases e : L[k].1 = nm
      · have HX : Hid (decide (0 ≤ idxL L nm) = true) := idx_pos (idx_at L nm k hlt (fun t h => HF.out t h (by omega)) e)
        rw [e] at c0
        generalize L[k].2 = tx at *
        have ht : (nm.toList == nm.toList) = true := by simp
        clear e
        go_wp2
        go_ret2
        exact ⟨⟨_, by rw [HX.out]; rfl⟩, below_more HB.out _⟩
      · have HX : Hid (∀ t (h : t < k + 1) (h2 : t < L.length), ¬ L[t].1 = nm) := fun t h h2 => by
          by_cases e2 : t = k
          · subst e2; exact e
          · exact HF.out t (by omega) h2
        have ht := textS_ne e
        clear e
        generalize L[k] = s at *
        obtain ⟨sn, st⟩ := s
        dsimp only at *
        go_wp2
        go_roundw
        case rel => exact ⟨k + 1, by omega, by go_num, HX.out, below_more HB.out _⟩
        case measure => simp [intOf]; omega
    · have HX : Hid (decide (0 ≤ idxL L nm) = false) := decide_eq_false (by rw [idx_no L nm (fun t h => HF.out t (by omega) h)]; omega)
      go_wp2
      go_ret2
      exact ⟨⟨_, by rw [HX.out]; rfl⟩, HB.out⟩
end Go.Proofs.YtnhehdobpibgkaaGreatDoor
namespace Go.Proofs.YtnhehdobpibgkaaGreatDoor
open Go.RowKit
set_option linter.unusedVariables false

theorem OwnS.moreT {w : World} {B : Nat} {v : Value} {L : List ByteArray} {t : ByteArray} (h : w.ownsRow B 9 1 v (L.length + 1) (cellsS L ++ [.string t])) : OwnS w B v (L ++ [t]) := by
  unfold OwnS
  rw [List.length_append]
  simpa [cellsS] using h
theorem catL_boundT {ts : List ByteArray} {c : Nat} (h : ∀ t ∈ ts, t.size ≤ c) : (catL ts).size ≤ ts.length * c := by
  induction ts with
  | nil => simp [catL]
  | cons t ts ih =>
    have h1 := h t (List.mem_cons_self ..)
    have h2 := ih (fun u hu => h u (List.mem_cons_of_mem _ hu))
    simp only [catL, ByteArray.size_append, List.length_cons, Nat.succ_mul]
    omega
theorem take_map_succT {α β : Type} (f : α → β) (L : List α) (k : Nat) (h : k < L.length) : (L.take (k + 1)).map f = (L.take k).map f ++ [f L[k]] := by
  rw [List.take_succ_eq_append_getElem h, List.map_append]
  rfl
theorem putT_8010 {t : ByteArray} (h : t.size ≤ 8000) : (putT t).size ≤ 8010 := by
  unfold putT
  rw [if_neg (by omega), ByteArray.size_append]
  have := putS_le (foldN (t.size : Int))
  omega
set_option maxRecDepth 100000 in
set_option maxHeartbeats 1600000 in
theorem layEachT_any (a : Option Addr) (L : List ByteArray) (n cap : Nat) (w : World) (hR : RowIs 1 strC w a L) (hn : L.length = n) (hW : ∀ s ∈ L, s.size ≤ 8000) (hl : n ≤ 1000) :
    Calls Tryz.prog 58 #[.slice a n cap, .func (.func 56) #[] #[]] w fun e w' => e = .returned (.string (catL (L.map putT))) ∧ Below w.heap.size w w' := by
  subst hn
  obtain ⟨i0, hi, hz0, hz1, hz2⟩ := info_parts infoS
  have HR : Hid (RowIs 1 strC w a L) := hR
  have HW : Hid (∀ s ∈ L, s.size ≤ 8000) := hW
  clear hR hW
  go_enter Tryz.func58, Tryz.ntmps58
  go_wp2
  go_loopw [5, 10] (fun v iv wr => ∃ k : Nat, k ≤ L.length ∧ iv = .int .i64 k ∧ Hid (OwnS wr w.heap.size v ((L.take k).map putT)) ∧ Hid (Below w.heap.size w wr)) (fun _ iv _ => L.length - (intOf iv).toNat)
  case atStart => exact ⟨0, by omega, rfl, OwnS.nil _ _, Below.refl _ _⟩
  case round =>
    obtain ⟨k, hk, rfl, HO, HB⟩ := hrel
    have hsz := HB.out.size
    by_cases hlt : k < L.length
    · obtain ⟨x, rfl, hx, c0⟩ := (HR.out.below HB.out).str k hlt
      have q0 := HW.out L[k] (List.getElem_mem hlt)
      have HTK : Hid (_ = _) := take_map_succT putT L k hlt
      have hlk : ((L.take k).map putT).length = k := by simp; omega
      have HLK : Hid (_ = _) := hlk
      clear hlk
      have hi0 : (0 : Int) ≤ (k : Int) := by omega
      have hi1 : (k : Int) < (L.length : Int) := by omega
      have HSB := implPutText_any L[k] wr (by unfold maxLen; omega)
      generalize hg : L[k] = s at *
      clear hg q0
      go_wp2_with fail
      refine HSB.mono ?_
      rintro e x2 ⟨rfl, hb⟩
      have HBx : Hid (Below w.heap.size w x2) := below_call HB.out hb
      have HOx : Hid (OwnS x2 w.heap.size _ ((L.take k).map putT)) := OwnS.stays HO.out hb
      have hsx := HBx.out.size
      clear hb
      generalize putT s = t at *
      have hkk : ((L.take k).map putT).length ≤ 1048576 := by rw [HLK.out]; omega
      generalize (L.take k).map putT = TS at *
      go_wp2_with (at_builtin; refine wpList_append_own _ rfl (.tmp 14) (.tmp 18) 79 rfl w.heap.size 9 i0 (.string ⟨#[]⟩) 1 16 Tryz.underlying79 hi hz0 hz1 hz2 rfl (by decide) _ TS.length (cellsS TS) rfl (HOx.out.alloc _) ⟨x2.heap.size, 0, none⟩ 1 1 [.string t] rfl rfl (cell_one_new _ _ _) (one_cellS _) (by unfold maxLen; omega) (by omega) (by simp; omega) ?_; intro v2 w2 hown2 hgrow2 _)
      have HOW : Hid (OwnS w2 w.heap.size v2 (TS ++ [t])) := OwnS.moreT hown2
      have HBW : Hid (Below w.heap.size w w2) := (below_more HBx.out _).grown hgrow2 (by simp; omega) (fun j hj => (HOx.out.lt j hj).1)
      clear hown2 hgrow2
      go_roundw
      case rel => exact ⟨k + 1, by omega, by go_num, by rw [HTK.out]; exact HOW.out, HBW.out⟩
      case measure => simp [intOf]; omega
    · obtain rfl : k = L.length := by omega
      have HTA : Hid ((L.take L.length).map putT = L.map putT) := by show _ = _; rw [List.take_length]
      have HBD : Hid ((catL (L.map putT)).size ≤ 400000000) := (Nat.le_trans (catL_boundT (c := 8010) (fun t ht => by obtain ⟨n, hn, rfl⟩ := List.mem_map.1 ht; exact putT_8010 (HW.out n hn))) (by rw [List.length_map]; omega))
      rw [HTA.out] at HO
      go_wp2_with fail
      refine (join_ownX (L.map putT) _ _ _ HO.out (by rw [List.length_map]; omega) HBD.out).mono ?_
      rintro e x2 ⟨rfl, hb⟩
      have HB2 : Hid (Below w.heap.size w x2) := below_call HB.out hb
      go_wp2
      go_ret
      exact ⟨rfl, HB2.out⟩
end Go.Proofs.YtnhehdobpibgkaaGreatDoor
namespace Go.Proofs.YtnhehdobpibgkaaGreatDoor
open Go.RowKit
set_option linter.unusedVariables false

theorem joinTwoW_is {a b : ByteArray} {N : Nat} {x : World} (hN : x.heap.size = N) (h : (a ++ b).size ≤ 400000000) : Calls Tryz.prog 55 #[.slice (some ⟨N, 0, none⟩) 2 2] (x.alloc (.cells #[.string a, .string b] 9)).drew fun e w' => e = .returned (.string (a ++ b)) ∧ Below x.heap.size x w' := by
  subst hN
  have h2 := join_rows [a, b] (some ⟨x.heap.size, 0, none⟩) 2 ((x.alloc (.cells #[.string a, .string b] 9)).drew) ((new_rows x [a, b]).below (Below.refl _ _).drew) (by simp) (by rw [catL_two]; exact h)
  rw [catL_two] at h2
  exact h2.mono fun e w' hw => ⟨hw.1, below_call (below_new x _).drew hw.2⟩
set_option maxRecDepth 100000 in
set_option maxHeartbeats 6400000 in
theorem withRecord_any (g : ByteArray) (sy : Int) (r : ByteArray) (w : World) (hg : g.size ≤ 8000) (hr : r.size ≤ 100000) :
    Calls Tryz.prog 39 #[.agg #[.string g, .int .i64 sy], .string r] w fun e w' => e = .returned (shopV (addG g r) (addN g r sy) (addC g r)) ∧ Below w.heap.size w w' := by
  have hsz : (g ++ r).size = g.size + r.size := ByteArray.size_append
  by_cases hbig : 8000 < (g ++ r).size
  · have HX : Hid (shopV (addG g r) (addN g r sy) (addC g r) = shopV ⟨#[]⟩ 0 9) := by show _ = _; unfold addG addN addC; rw [if_pos hbig, if_pos hbig, if_pos hbig]
    have h1 : (8000 : Int) < (g.size : Int) + (r.size : Int) := by omega
    clear hbig hsz
    rw [HX.out]
    go_enter Tryz.func39, Tryz.ntmps39
    go_wp2
    exact bodyPost_ret (results_cell_row Tryz.results39 _ _ (w.heap.size + 1) 37 _ (0, 0) _ rfl (heap_new2 w _ _) Tryz.underlying37 rfl (by kernel_rfl)) rfl ⟨rfl, below_more (below_new _ _) _⟩
  · have HX : Hid (shopV (addG g r) (addN g r sy) (addC g r) = shopV (g ++ r) sy 0) := by show _ = _; unfold addG addN addC; rw [if_neg hbig, if_neg hbig, if_neg hbig]
    have h1 : ¬ (8000 : Int) < (g.size : Int) + (r.size : Int) := by omega
    have HJ : Hid ((g ++ r).size ≤ 400000000) := by show _ ≤ _; rw [ByteArray.size_append]; omega
    clear hbig hsz
    rw [HX.out]
    go_enter Tryz.func39, Tryz.ntmps39
    go_wp2_with fail
    have HRq : Hid (((w.alloc (.cells #[.string g, .int .i64 sy] 33)).alloc (.cells #[.string ⟨#[]⟩, .int .i64 0, .string ⟨#[]⟩, .int .i64 0, .int .i64 0] 37)).heap[w.heap.size]? = some (.cells #[.string g, .int .i64 sy] 33 (0, 0))) := heap_more (heap_alloc_new w _) _
    have HYq : Hid (((w.alloc (.cells #[.string g, .int .i64 sy] 33)).alloc (.cells #[.string ⟨#[]⟩, .int .i64 0, .string ⟨#[]⟩, .int .i64 0, .int .i64 0] 37)).heap[w.heap.size + 1]? = some (.cells #[.string ⟨#[]⟩, .int .i64 0, .string ⟨#[]⟩, .int .i64 0, .int .i64 0] 37 (0, 0))) := heap_new2 w _ _
    have HBq : Hid (Below w.heap.size w ((w.alloc (.cells #[.string g, .int .i64 sy] 33)).alloc (.cells #[.string ⟨#[]⟩, .int .i64 0, .string ⟨#[]⟩, .int .i64 0, .int .i64 0] 37))) := below_more (below_new _ _) _
    generalize hy : (w.alloc (.cells #[.string g, .int .i64 sy] 33)).alloc (.cells #[.string ⟨#[]⟩, .int .i64 0, .string ⟨#[]⟩, .int .i64 0, .int .i64 0] 37) = y at HRq HYq HBq ⊢
    clear hy
    obtain ⟨c0, c1, c2, c3⟩ := two_cells HRq.out
    go_region_held3 (fun w' => w'.cell? ⟨w.heap.size, 0, none⟩ = some (.string g) ∧ w'.cell? ⟨w.heap.size, 1, none⟩ = some (.int .i64 sy)) (first | exact ⟨row20 (by repeat (first | with_reducible exact HRq.out | with_reducible apply heap_drewn | with_reducible apply heap_more)), row21 (by repeat (first | with_reducible exact HRq.out | with_reducible apply heap_drewn | with_reducible apply heap_more))⟩ | exact five_far HRq.out) (first
      | (go_at_call 55; refine (joinTwoW_is rfl HJ.out).mono ?_; rintro e q ⟨rfl, hb⟩; have HRq : Hid (q.heap[w.heap.size]? = some (.cells #[.string g, .int .i64 sy] 33 (0, 0))) := heap_keep (by repeat (first | with_reducible exact HRq.out | with_reducible apply heap_drewn)) hb; have HYq : Hid (q.heap[w.heap.size + 1]? = some (.cells #[.string ⟨#[]⟩, .int .i64 0, .string ⟨#[]⟩, .int .i64 0, .int .i64 0] 37 (0, 0))) := heap_keep (by repeat (first | with_reducible exact HYq.out | with_reducible apply heap_drewn)) hb; have HBq : Hid (Below w.heap.size w q) := below_call (by repeat (first | with_reducible exact HBq.out | with_reducible refine Below.drew ?_)) hb; obtain ⟨⟨m0, m1, m2, m3, m4⟩, g0, g1, g2, g3, g4⟩ := five_cf HYq.out; clear hb))
    all_goals
      go_wp2
      exact bodyPost_ret (results_cell_row Tryz.results39 _ _ (w.heap.size + 1) 37 _ (0, 0) _ rfl (set_five HYq.out) Tryz.underlying37 rfl (by kernel_rfl)) rfl ⟨rfl, ((((HBq.out.setCell (by show _ ≤ w.heap.size + 1; omega) _).setCell (by show _ ≤ w.heap.size + 1; omega) _).setCell (by show _ ≤ w.heap.size + 1; omega) _).setCell (by show _ ≤ w.heap.size + 1; omega) _).setCell (by show _ ≤ w.heap.size + 1; omega) _⟩
end Go.Proofs.YtnhehdobpibgkaaGreatDoor
