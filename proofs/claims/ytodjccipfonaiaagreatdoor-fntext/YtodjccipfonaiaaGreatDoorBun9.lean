/- Instructions: the words of one, by the program; the closed form. -/
import Derived.Test.YtodjccipfonaiaaGreatDoorRows
import Derived.WalkKit
import Derived.WalkSpells
import Derived.WalkLawsBesides
import Derived.Outline
import Derived.RegionTactic
import Derived.BigRegion
import Derived.Deep.RegionHeld3
import Derived.Deep.CutRange
import Derived.Laws.EntriesVeiled
import Derived.Test.YtodjccipfonaiaaGreatDoorBun0
import Derived.Test.YtodjccipfonaiaaGreatDoorBun7
import Derived.Test.YtodjccipfonaiaaGreatDoorBun8
namespace Go.Proofs.YtodjccipfonaiaaGreatDoor
open Go.RowKit
set_option linter.unusedVariables false

set_option maxRecDepth 100000 in
set_option maxHeartbeats 4000000 in
theorem implEnc_one (op : ByteArray) (b : Bool) (m r n : Int) (l : Bool) (m2 r2 n2 : Int) (l2 : Bool) (j : Int) (k : Int) (a1 a2 : Int) (w : World) (HN : Hid (insnB op b m r n l m2 r2 n2 l2 j = true)) (HF : Hid (findI op = (1, k, true))) (hk0 : 0 ≤ k) (hk1 : k ≤ 7) (h0 : 0 ≤ m) (h5 : m ≤ 5) (g0 : 0 ≤ m2) (g5 : m2 ≤ 5) (H1 : Hid ((asI m r n l).1 = a1)) (H2 : Hid ((asI m r n l).2.1 = a2)) (ha0 : 0 ≤ a1) (ha1 : a1 ≤ 3) (hb0 : 0 ≤ a2) (hb1 : a2 ≤ 15) (hT : Tabs w) :
    Calls Tryz.prog 12 #[.agg #[.string op, .bool b, .int .i64 m, .int .i64 r, .int .i64 n, .bool l, .int .i64 m2, .int .i64 r2, .int .i64 n2, .bool l2, .int .i64 j]] w fun e w' => ∃ v, e = .returned v ∧ OwnI w' w.heap.size v (wordsI (4096 + 128 * k + markI b + 16 * a1 + a2) m r n l m2 r2 n2 l2) ∧ Below w.heap.size w w' := by
  have HTw : Hid (_) := hT
  have HT : Hid (∀ o, Tabs (w.alloc o)) := fun o => hT.alloc o
  clear hT
  go_enter Tryz.func12, Tryz.ntmps12
  go_wp2_with fail
  refine (implRight_any op b m r n l m2 r2 n2 l2 j _ (HT.out _)).mono ?_
  rintro e x1 ⟨rfl, hb⟩
  rw [HN.out]
  have HI1 : Hid (_ = _) := heap_keep (heap_alloc_new w _) hb
  have HB1 : Hid (Below w.heap.size w x1) := below_call (below_new _ _) hb
  have HT1 : Hid (Tabs x1) := (HT.out _).below hb
  clear hb
  obtain ⟨c0, c1, c2, c3, c4, c5, c6, c7, c8, c9, c10⟩ := cells11 HI1.out
  have hz1 := heap_lt HI1.out
  go_wp2_with fail
  refine (findOp_any op _ (HT1.out.alloc _)).mono ?_
  rintro e x2 ⟨rfl, hb⟩
  rw [HF.out]
  have HI2 : Hid (_ = _) := heap_keep (heap_more HI1.out _) hb
  have HG2 : Hid (_ = _) := heap_keep (heap_alloc_new x1 _) hb
  have HB2 : Hid (Below w.heap.size w x2) := below_call (below_more HB1.out _) hb
  have HT2 : Hid (Tabs x2) := (HT1.out.alloc _).below hb
  clear hb c0 c1 c2 c3 c4 c5 c6 c7 c8 c9 c10
  obtain ⟨c0, c1, c2, c3, c4, c5, c6, c7, c8, c9, c10⟩ := cells11 HI2.out
  obtain ⟨u0, u1, u2⟩ := three_cells HG2.out
  have hz2 := heap_lt HI2.out
  have hz3 := heap_lt HG2.out
  go_wp2_with fail
  go_region_held3 (fun w' => (w'.cell? ⟨w.heap.size, 0, none⟩ = some (.string op) ∧ w'.cell? ⟨w.heap.size, 1, none⟩ = some (.bool b) ∧ w'.cell? ⟨w.heap.size, 2, none⟩ = some (.int .i64 m) ∧ w'.cell? ⟨w.heap.size, 3, none⟩ = some (.int .i64 r) ∧ w'.cell? ⟨w.heap.size, 4, none⟩ = some (.int .i64 n) ∧ w'.cell? ⟨w.heap.size, 5, none⟩ = some (.bool l) ∧ w'.cell? ⟨w.heap.size, 6, none⟩ = some (.int .i64 m2) ∧ w'.cell? ⟨w.heap.size, 7, none⟩ = some (.int .i64 r2) ∧ w'.cell? ⟨w.heap.size, 8, none⟩ = some (.int .i64 n2) ∧ w'.cell? ⟨w.heap.size, 9, none⟩ = some (.bool l2) ∧ w'.cell? ⟨w.heap.size, 10, none⟩ = some (.int .i64 j)) ∧ w'.cell? ⟨x2.heap.size, 0, none⟩ = some (.int .i64 1) ∧ w'.cell? ⟨x2.heap.size, 1, none⟩ = some (.int .i64 k) ∧ w'.cell? ⟨x1.heap.size, 0, none⟩ = some (.func (.func 37) #[] #[]) ∧ w'.cell? ⟨x1.heap.size, 1, none⟩ = some (.func (.func 38) #[] #[]) ∧ w'.cell? ⟨x1.heap.size, 2, none⟩ = some (.func (.func 39) #[] #[])) (go_keep) (first
    | (go_at_call 38; refine (firstOfOne_any op b m r n l m2 r2 n2 l2 j k a1 a2 _ hk0 hk1 h0 h5 H1 H2 ha0 ha1 hb0 hb1 (by exact (HT2.out.alloc _).drew)).mono ?_; rintro e x3 ⟨rfl, hb⟩; have HI3 : Hid (_ = _) := heap_keep (by exact heap_more HI2.out _) hb; have HG3 : Hid (_ = _) := heap_keep (by exact heap_more HG2.out _) hb; have HP3 : Hid (_ = _) := heap_keep (by exact heap_alloc_new x2 _) hb; have HB3 : Hid (Below w.heap.size w x3) := below_call (by exact (below_more HB2.out _).drew) hb; have HT3 : Hid (Tabs x3) := Tabs.below (by exact (HT2.out.alloc _).drew) hb; clear hb c0 c1 c2 c3 c4 c5 c6 c7 c8 c9 c10 u0 u1 u2; obtain ⟨d0, d1, d2, d3, d4, d5, d6, d7, d8, d9, d10⟩ := cells11 HI3.out; obtain ⟨s0, s1, s2⟩ := three_cells HG3.out; obtain ⟨q0, q1, f0, f1⟩ := two_cells HP3.out; have hz4 := heap_lt HI3.out))
  generalize hfw : (4096 + 128 * k + markI b + 16 * a1 + a2 : Int) = fw at *
  have HFW : Hid (_ = _) := hfw
  clear hfw
  go_wp2_with fail
  clear q0 q1 f0 f1 s0 s1 s2
  go_loopw [6, 33] (fun v i wr => ∃ t : Nat, t ≤ 2 ∧ i = .int .i64 t ∧ Hid (OwnI wr w.heap.size v (partI fw m r n l m2 r2 n2 l2 t)) ∧ Hid (Below w.heap.size w wr) ∧ Hid (Tabs wr)) (fun _ i _ => 2 - (intOf i).toNat)
  case atStart => exact ⟨0, by omega, rfl, OwnI.mk (L := [fw]) (by have := HB3.out.size; omega) (heap_alloc_new x3 _) (by simp) (by simp [maxLen]) rfl (fun i hi => by obtain rfl : i = 0 := (by simpa using hi); rfl), below_more HB3.out _, HT3.out.alloc _⟩
  case round =>
    obtain ⟨t, ht, rfl, HO, HB, HTr⟩ := hrel
    obtain rfl | rfl | rfl : t = 0 ∨ t = 1 ∨ t = 2 := by omega
    · have hix := fun W => two_i0 (.int .i64 m) (.int .i64 r) (.int .i64 n) (.bool l) (.int .i64 m2) (.int .i64 r2) (.int .i64 n2) (.bool l2) W
      have HO1 : Hid (OwnI wr w.heap.size _ ([fw])) := HO.out
      have hsz := HB.out.size
      go_wp2_with fail
      refine (hasWord_any m r n l _ h0 h5 (HTr.out.alloc _)).mono ?_
      rintro e y ⟨rfl, hb⟩
      have HO2 : Hid (OwnI y w.heap.size _ ([fw])) := (HO1.out.alloc _).stays hb
      have HB2 : Hid (Below w.heap.size w y) := below_call (below_more HB.out _) hb
      have HT2 : Hid (Tabs y) := (HTr.out.alloc _).below hb
      have HV : Hid (_ = _) := heap_keep (heap_alloc_new wr _) hb
      obtain ⟨e0, e1, e2, e3⟩ := cells4h HV.out
      have hzv := heap_lt HV.out
      have hsz2 := HB2.out.size
      clear hb
      cases ha : (asI m r n l).2.2
      · go_wp2_with fail
        go_roundw
        case rel => exact ⟨1, by omega, rfl, (by show OwnI _ _ _ _; have h := HO2.out; simpa [partI, wordsI, optI, ha] using h), HB2.out, HT2.out⟩
        case measure => simp [intOf]
      · obtain ⟨i0, hi, hz0, hz1', hz2'⟩ := info_parts infoI
        have hlen : ([fw] : List Int).length < 1000000 := by (first | (simp; done) | (simp [optI]; split <;> simp))
        go_wp2_with (at_builtin; refine wpList_append_own _ rfl (.tmp 38) (.tmp 41) 36 rfl w.heap.size 2 i0 (.int .i64 0) 1 8 Tryz.underlying36 hi hz0 hz1' hz2' rfl (by decide) _ _ _ rfl (HO2.out.alloc _) ⟨y.heap.size, 0, none⟩ 1 1 [.int .i64 n] rfl rfl (cell_one_new _ _ _) (one_cellI _) (len_small _ hlen) (by omega) (by simp; omega) ?_; intro v2 w2 hown2 hgrow2 _)
        go_roundw
        case rel =>
          have hb3 : Below w.heap.size w w2 := (below_more HB2.out _).grown hgrow2 (by simp; omega) (fun q hq => (HO2.out.lt q hq).1)
          have ht3 : Tabs w2 := HTw.out.below hb3
          exact ⟨1, by omega, rfl, (by show OwnI _ _ _ _; have h := OwnI.more hown2; simpa [partI, wordsI, optI, ha] using h), hb3, ht3⟩
        case measure => simp [intOf]
    · have hix := fun W => two_i1 (.int .i64 m) (.int .i64 r) (.int .i64 n) (.bool l) (.int .i64 m2) (.int .i64 r2) (.int .i64 n2) (.bool l2) W
      have HO1 : Hid (OwnI wr w.heap.size _ (fw :: optI (asI m r n l).2.2 n)) := HO.out
      have hsz := HB.out.size
      go_wp2_with fail
      refine (hasWord_any m2 r2 n2 l2 _ g0 g5 (HTr.out.alloc _)).mono ?_
      rintro e y ⟨rfl, hb⟩
      have HO2 : Hid (OwnI y w.heap.size _ (fw :: optI (asI m r n l).2.2 n)) := (HO1.out.alloc _).stays hb
      have HB2 : Hid (Below w.heap.size w y) := below_call (below_more HB.out _) hb
      have HT2 : Hid (Tabs y) := (HTr.out.alloc _).below hb
      have HV : Hid (_ = _) := heap_keep (heap_alloc_new wr _) hb
      obtain ⟨e0, e1, e2, e3⟩ := cells4h HV.out
      have hzv := heap_lt HV.out
      have hsz2 := HB2.out.size
      clear hb
      cases ha : (asI m2 r2 n2 l2).2.2
      · go_wp2_with fail
        go_roundw
        case rel => exact ⟨2, by omega, rfl, (by show OwnI _ _ _ _; have h := HO2.out; simpa [partI, wordsI, optI, ha] using h), HB2.out, HT2.out⟩
        case measure => simp [intOf]
      · obtain ⟨i0, hi, hz0, hz1', hz2'⟩ := info_parts infoI
        have hlen : (fw :: optI (asI m r n l).2.2 n : List Int).length < 1000000 := by (first | (simp; done) | (simp [optI]; split <;> simp))
        go_wp2_with (at_builtin; refine wpList_append_own _ rfl (.tmp 38) (.tmp 41) 36 rfl w.heap.size 2 i0 (.int .i64 0) 1 8 Tryz.underlying36 hi hz0 hz1' hz2' rfl (by decide) _ _ _ rfl (HO2.out.alloc _) ⟨y.heap.size, 0, none⟩ 1 1 [.int .i64 n2] rfl rfl (cell_one_new _ _ _) (one_cellI _) (len_small _ hlen) (by omega) (by simp; omega) ?_; intro v2 w2 hown2 hgrow2 _)
        go_roundw
        case rel =>
          have hb3 : Below w.heap.size w w2 := (below_more HB2.out _).grown hgrow2 (by simp; omega) (fun q hq => (HO2.out.lt q hq).1)
          have ht3 : Tabs w2 := HTw.out.below hb3
          exact ⟨2, by omega, rfl, (by show OwnI _ _ _ _; have h := OwnI.more hown2; simpa [partI, wordsI, optI, ha] using h), hb3, ht3⟩
        case measure => simp [intOf]
    · go_wp2
      go_ret
      exact ⟨_, rfl, (by have h := HO.out; rw [← HFW.out] at h; exact h), HB.out⟩
end Go.Proofs.YtodjccipfonaiaaGreatDoor
namespace Go.Proofs.YtodjccipfonaiaaGreatDoor
open Go.RowKit
set_option linter.unusedVariables false

set_option maxRecDepth 100000 in
set_option maxHeartbeats 4000000 in
theorem implEnc_two (op : ByteArray) (b : Bool) (m r n : Int) (l : Bool) (m2 r2 n2 : Int) (l2 : Bool) (j : Int) (k : Int) (a1 a2 b1 b2 : Int) (w : World) (HN : Hid (insnB op b m r n l m2 r2 n2 l2 j = true)) (HF : Hid (findI op = (0, k, true))) (hk0 : 0 ≤ k) (hk1 : k ≤ 15) (h0 : 0 ≤ m) (h5 : m ≤ 5) (g0 : 0 ≤ m2) (g5 : m2 ≤ 5) (H1 : Hid ((asI m r n l).1 = a1)) (H2 : Hid ((asI m r n l).2.1 = a2)) (H3 : Hid ((asI m2 r2 n2 l2).1 = b1)) (H4 : Hid ((asI m2 r2 n2 l2).2.1 = b2)) (ha0 : 0 ≤ a1) (ha1 : a1 ≤ 3) (hb0 : 0 ≤ a2) (hb1 : a2 ≤ 15) (hc0 : 0 ≤ b1) (hc1 : b1 ≤ 3) (hd0 : 0 ≤ b2) (hd1 : b2 ≤ 15) (hT : Tabs w) :
    Calls Tryz.prog 12 #[.agg #[.string op, .bool b, .int .i64 m, .int .i64 r, .int .i64 n, .bool l, .int .i64 m2, .int .i64 r2, .int .i64 n2, .bool l2, .int .i64 j]] w fun e w' => ∃ v, e = .returned v ∧ OwnI w' w.heap.size v (wordsI (4096 * k + 256 * a2 + 128 * b1 + markI b + 16 * a1 + b2) m r n l m2 r2 n2 l2) ∧ Below w.heap.size w w' := by
  have HTw : Hid (_) := hT
  have HT : Hid (∀ o, Tabs (w.alloc o)) := fun o => hT.alloc o
  clear hT
  go_enter Tryz.func12, Tryz.ntmps12
  go_wp2_with fail
  refine (implRight_any op b m r n l m2 r2 n2 l2 j _ (HT.out _)).mono ?_
  rintro e x1 ⟨rfl, hb⟩
  rw [HN.out]
  have HI1 : Hid (_ = _) := heap_keep (heap_alloc_new w _) hb
  have HB1 : Hid (Below w.heap.size w x1) := below_call (below_new _ _) hb
  have HT1 : Hid (Tabs x1) := (HT.out _).below hb
  clear hb
  obtain ⟨c0, c1, c2, c3, c4, c5, c6, c7, c8, c9, c10⟩ := cells11 HI1.out
  have hz1 := heap_lt HI1.out
  go_wp2_with fail
  refine (findOp_any op _ (HT1.out.alloc _)).mono ?_
  rintro e x2 ⟨rfl, hb⟩
  rw [HF.out]
  have HI2 : Hid (_ = _) := heap_keep (heap_more HI1.out _) hb
  have HG2 : Hid (_ = _) := heap_keep (heap_alloc_new x1 _) hb
  have HB2 : Hid (Below w.heap.size w x2) := below_call (below_more HB1.out _) hb
  have HT2 : Hid (Tabs x2) := (HT1.out.alloc _).below hb
  clear hb c0 c1 c2 c3 c4 c5 c6 c7 c8 c9 c10
  obtain ⟨c0, c1, c2, c3, c4, c5, c6, c7, c8, c9, c10⟩ := cells11 HI2.out
  obtain ⟨u0, u1, u2⟩ := three_cells HG2.out
  have hz2 := heap_lt HI2.out
  have hz3 := heap_lt HG2.out
  go_wp2_with fail
  go_region_held3 (fun w' => (w'.cell? ⟨w.heap.size, 0, none⟩ = some (.string op) ∧ w'.cell? ⟨w.heap.size, 1, none⟩ = some (.bool b) ∧ w'.cell? ⟨w.heap.size, 2, none⟩ = some (.int .i64 m) ∧ w'.cell? ⟨w.heap.size, 3, none⟩ = some (.int .i64 r) ∧ w'.cell? ⟨w.heap.size, 4, none⟩ = some (.int .i64 n) ∧ w'.cell? ⟨w.heap.size, 5, none⟩ = some (.bool l) ∧ w'.cell? ⟨w.heap.size, 6, none⟩ = some (.int .i64 m2) ∧ w'.cell? ⟨w.heap.size, 7, none⟩ = some (.int .i64 r2) ∧ w'.cell? ⟨w.heap.size, 8, none⟩ = some (.int .i64 n2) ∧ w'.cell? ⟨w.heap.size, 9, none⟩ = some (.bool l2) ∧ w'.cell? ⟨w.heap.size, 10, none⟩ = some (.int .i64 j)) ∧ w'.cell? ⟨x2.heap.size, 0, none⟩ = some (.int .i64 0) ∧ w'.cell? ⟨x2.heap.size, 1, none⟩ = some (.int .i64 k) ∧ w'.cell? ⟨x1.heap.size, 0, none⟩ = some (.func (.func 37) #[] #[]) ∧ w'.cell? ⟨x1.heap.size, 1, none⟩ = some (.func (.func 38) #[] #[]) ∧ w'.cell? ⟨x1.heap.size, 2, none⟩ = some (.func (.func 39) #[] #[])) (go_keep) (first
    | (go_at_call 37; refine (firstOfTwo_any op b m r n l m2 r2 n2 l2 j k a1 a2 b1 b2 _ hk0 hk1 h0 h5 g0 g5 H1 H2 H3 H4 ha0 ha1 hb0 hb1 hc0 hc1 hd0 hd1 (by exact (HT2.out.alloc _).drew)).mono ?_; rintro e x3 ⟨rfl, hb⟩; have HI3 : Hid (_ = _) := heap_keep (by exact heap_more HI2.out _) hb; have HG3 : Hid (_ = _) := heap_keep (by exact heap_more HG2.out _) hb; have HP3 : Hid (_ = _) := heap_keep (by exact heap_alloc_new x2 _) hb; have HB3 : Hid (Below w.heap.size w x3) := below_call (by exact (below_more HB2.out _).drew) hb; have HT3 : Hid (Tabs x3) := Tabs.below (by exact (HT2.out.alloc _).drew) hb; clear hb c0 c1 c2 c3 c4 c5 c6 c7 c8 c9 c10 u0 u1 u2; obtain ⟨d0, d1, d2, d3, d4, d5, d6, d7, d8, d9, d10⟩ := cells11 HI3.out; obtain ⟨s0, s1, s2⟩ := three_cells HG3.out; obtain ⟨q0, q1, f0, f1⟩ := two_cells HP3.out; have hz4 := heap_lt HI3.out))
  generalize hfw : (4096 * k + 256 * a2 + 128 * b1 + markI b + 16 * a1 + b2 : Int) = fw at *
  have HFW : Hid (_ = _) := hfw
  clear hfw
  go_wp2_with fail
  clear q0 q1 f0 f1 s0 s1 s2
  go_loopw [6, 33] (fun v i wr => ∃ t : Nat, t ≤ 2 ∧ i = .int .i64 t ∧ Hid (OwnI wr w.heap.size v (partI fw m r n l m2 r2 n2 l2 t)) ∧ Hid (Below w.heap.size w wr) ∧ Hid (Tabs wr)) (fun _ i _ => 2 - (intOf i).toNat)
  case atStart => exact ⟨0, by omega, rfl, OwnI.mk (L := [fw]) (by have := HB3.out.size; omega) (heap_alloc_new x3 _) (by simp) (by simp [maxLen]) rfl (fun i hi => by obtain rfl : i = 0 := (by simpa using hi); rfl), below_more HB3.out _, HT3.out.alloc _⟩
  case round =>
    obtain ⟨t, ht, rfl, HO, HB, HTr⟩ := hrel
    obtain rfl | rfl | rfl : t = 0 ∨ t = 1 ∨ t = 2 := by omega
    · have hix := fun W => two_i0 (.int .i64 m) (.int .i64 r) (.int .i64 n) (.bool l) (.int .i64 m2) (.int .i64 r2) (.int .i64 n2) (.bool l2) W
      have HO1 : Hid (OwnI wr w.heap.size _ ([fw])) := HO.out
      have hsz := HB.out.size
      go_wp2_with fail
      refine (hasWord_any m r n l _ h0 h5 (HTr.out.alloc _)).mono ?_
      rintro e y ⟨rfl, hb⟩
      have HO2 : Hid (OwnI y w.heap.size _ ([fw])) := (HO1.out.alloc _).stays hb
      have HB2 : Hid (Below w.heap.size w y) := below_call (below_more HB.out _) hb
      have HT2 : Hid (Tabs y) := (HTr.out.alloc _).below hb
      have HV : Hid (_ = _) := heap_keep (heap_alloc_new wr _) hb
      obtain ⟨e0, e1, e2, e3⟩ := cells4h HV.out
      have hzv := heap_lt HV.out
      have hsz2 := HB2.out.size
      clear hb
      cases ha : (asI m r n l).2.2
      · go_wp2_with fail
        go_roundw
        case rel => exact ⟨1, by omega, rfl, (by show OwnI _ _ _ _; have h := HO2.out; simpa [partI, wordsI, optI, ha] using h), HB2.out, HT2.out⟩
        case measure => simp [intOf]
      · obtain ⟨i0, hi, hz0, hz1', hz2'⟩ := info_parts infoI
        have hlen : ([fw] : List Int).length < 1000000 := by (first | (simp; done) | (simp [optI]; split <;> simp))
        go_wp2_with (at_builtin; refine wpList_append_own _ rfl (.tmp 38) (.tmp 41) 36 rfl w.heap.size 2 i0 (.int .i64 0) 1 8 Tryz.underlying36 hi hz0 hz1' hz2' rfl (by decide) _ _ _ rfl (HO2.out.alloc _) ⟨y.heap.size, 0, none⟩ 1 1 [.int .i64 n] rfl rfl (cell_one_new _ _ _) (one_cellI _) (len_small _ hlen) (by omega) (by simp; omega) ?_; intro v2 w2 hown2 hgrow2 _)
        go_roundw
        case rel =>
          have hb3 : Below w.heap.size w w2 := (below_more HB2.out _).grown hgrow2 (by simp; omega) (fun q hq => (HO2.out.lt q hq).1)
          have ht3 : Tabs w2 := HTw.out.below hb3
          exact ⟨1, by omega, rfl, (by show OwnI _ _ _ _; have h := OwnI.more hown2; simpa [partI, wordsI, optI, ha] using h), hb3, ht3⟩
        case measure => simp [intOf]
    · have hix := fun W => two_i1 (.int .i64 m) (.int .i64 r) (.int .i64 n) (.bool l) (.int .i64 m2) (.int .i64 r2) (.int .i64 n2) (.bool l2) W
      have HO1 : Hid (OwnI wr w.heap.size _ (fw :: optI (asI m r n l).2.2 n)) := HO.out
      have hsz := HB.out.size
      go_wp2_with fail
      refine (hasWord_any m2 r2 n2 l2 _ g0 g5 (HTr.out.alloc _)).mono ?_
      rintro e y ⟨rfl, hb⟩
      have HO2 : Hid (OwnI y w.heap.size _ (fw :: optI (asI m r n l).2.2 n)) := (HO1.out.alloc _).stays hb
      have HB2 : Hid (Below w.heap.size w y) := below_call (below_more HB.out _) hb
      have HT2 : Hid (Tabs y) := (HTr.out.alloc _).below hb
      have HV : Hid (_ = _) := heap_keep (heap_alloc_new wr _) hb
      obtain ⟨e0, e1, e2, e3⟩ := cells4h HV.out
      have hzv := heap_lt HV.out
      have hsz2 := HB2.out.size
      clear hb
      cases ha : (asI m2 r2 n2 l2).2.2
      · go_wp2_with fail
        go_roundw
        case rel => exact ⟨2, by omega, rfl, (by show OwnI _ _ _ _; have h := HO2.out; simpa [partI, wordsI, optI, ha] using h), HB2.out, HT2.out⟩
        case measure => simp [intOf]
      · obtain ⟨i0, hi, hz0, hz1', hz2'⟩ := info_parts infoI
        have hlen : (fw :: optI (asI m r n l).2.2 n : List Int).length < 1000000 := by (first | (simp; done) | (simp [optI]; split <;> simp))
        go_wp2_with (at_builtin; refine wpList_append_own _ rfl (.tmp 38) (.tmp 41) 36 rfl w.heap.size 2 i0 (.int .i64 0) 1 8 Tryz.underlying36 hi hz0 hz1' hz2' rfl (by decide) _ _ _ rfl (HO2.out.alloc _) ⟨y.heap.size, 0, none⟩ 1 1 [.int .i64 n2] rfl rfl (cell_one_new _ _ _) (one_cellI _) (len_small _ hlen) (by omega) (by simp; omega) ?_; intro v2 w2 hown2 hgrow2 _)
        go_roundw
        case rel =>
          have hb3 : Below w.heap.size w w2 := (below_more HB2.out _).grown hgrow2 (by simp; omega) (fun q hq => (HO2.out.lt q hq).1)
          have ht3 : Tabs w2 := HTw.out.below hb3
          exact ⟨2, by omega, rfl, (by show OwnI _ _ _ _; have h := OwnI.more hown2; simpa [partI, wordsI, optI, ha] using h), hb3, ht3⟩
        case measure => simp [intOf]
    · go_wp2
      go_ret
      exact ⟨_, rfl, (by have h := HO.out; rw [← HFW.out] at h; exact h), HB.out⟩
end Go.Proofs.YtodjccipfonaiaaGreatDoor
