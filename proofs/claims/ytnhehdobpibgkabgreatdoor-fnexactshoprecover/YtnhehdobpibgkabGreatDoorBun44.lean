/- The walk of FnExactStateOf. -/
import Derived.Test.YtnhehdobpibgkabGreatDoorRows
import Derived.WalkKit
import Derived.WalkSpells
import Derived.WalkLawsBesides
import Derived.Test.YtnhehdobpibgkabGreatDoorBun0
import Derived.Test.YtnhehdobpibgkabGreatDoorBun1
import Derived.Test.YtnhehdobpibgkabGreatDoorBun5
import Derived.Test.YtnhehdobpibgkabGreatDoorStateSZq
import Derived.Test.YtnhehdobpibgkabGreatDoorBun42
import Derived.Test.YtnhehdobpibgkabGreatDoorBun2
import Derived.Test.YtnhehdobpibgkabGreatDoorBun4
namespace Go.Proofs.YtnhehdobpibgkabGreatDoor
open Go.RowKit
set_option linter.unusedVariables false

def StV (w : World) : Prop := ErrV w ∧ ∃ te pe, PanV te pe w
theorem stOf_right (g : ByteArray) : rightT (stOf g).1 := by
  unfold stOf
  split
  · exact (start_right g).1
  · exact (stateL_right g).1
theorem KS.keep {v : Value} {w w' : World} {q : Nat} {o : Obj} (h : KS v w w') (hq : w.heap[q]? = some o) (hne : v.ownBlock ≠ some q) : w'.heap[q]? = some o := (h.block q (heap_lt hq) hne).trans hq
theorem KS.below {v : Value} {B : Nat} {W w w' : World} (hb : Below B W w) (h : KS v w w') (hB : ∀ q, v.ownBlock = some q → B ≤ q) (hs : B ≤ w.heap.size) : Below B W w' :=
  ⟨h.os.trans hb.os, h.tape.trans hb.tape, h.output.trans hb.output, Nat.le_trans hb.size h.size, fun k hk => (h.block k (by omega) (fun e => by have := hB k e; omega)).trans (hb.block k hk)⟩
theorem ErrV.ks {v : Value} {w w' : World} (h : ErrV w) (hk : KS v w w') (hne : v.ownBlock ≠ some 1) : ErrV w' := by
  obtain ⟨te, pe, h⟩ := h
  refine ⟨te, pe, ?_⟩
  have hlt := World.block_lt_of_cell? _ _ h
  have hbk := hk.block 1 hlt hne
  unfold World.cell? at h ⊢
  simp only at h ⊢
  rw [hbk]
  exact h
theorem PanV.ks {v : Value} {te : TypeId} {pe : Value} {w w' : World} (h : PanV te pe w) (hk : KS v w w') (hne : v.ownBlock ≠ some 0) : PanV te pe w' := by
  have hlt := h.lt
  have hbk := hk.block 0 hlt hne
  unfold PanV World.cell? at h ⊢
  simp only at h ⊢
  rw [hbk]
  exact h
theorem RowIs.ks {v : Value} {α : Type} {n : Nat} {c : α → List Value} {w w' : World} {a : Option Addr} {L : List α} (h : RowIs n c w a L) (hk : KS v w w') (hne : ∀ x, a = some x → v.ownBlock ≠ some x.block) : RowIs n c w' a L := fun hl => by
  obtain ⟨x, rfl, hb, hc⟩ := h hl
  refine ⟨x, rfl, Nat.lt_of_lt_of_le hb hk.size, fun i hi j u hu => ?_⟩
  have h1 := hc i hi j u hu
  have hbk := hk.block x.block hb (hne x rfl)
  have e : (x.add (i * n + j)).block = x.block := add_blockX x _
  unfold World.cell? at h1 ⊢
  rw [e] at h1 ⊢
  rw [hbk]
  exact h1
theorem own_far {w : World} {B B2 : Nat} {v : Value} {L : List Src} (h : OwnR w B v L) (hlt : ∀ q, v.ownBlock = some q → q < B2) {v2 : Value} {w2 : World} {L2 : List Src} (h2 : OwnR w2 B2 v2 L2) : ∀ q, v.ownBlock = some q → v2.ownBlock ≠ some q := fun q hq e => by
  have a1 := hlt q hq
  have a2 := (h2.blk q e).1
  omega
end Go.Proofs.YtnhehdobpibgkabGreatDoor
namespace Go.Proofs.YtnhehdobpibgkabGreatDoor
open Go.RowKit
set_option linter.unusedVariables false

theorem field_at (im : ByteArray) (n : Nat) (at_ : Int) (v : Value) (W : World) : (Instr.field 32 (.agg #[v, .string im, .int .i64 (n : Int), .int .i64 at_]) 3).run Tryz.prog W = .ok (.int .i64 at_) W := by kernel_rfl
def recoL (g : ByteArray) : ByteArray := if 8000 < g.size then g else g.extract 0 (stateL g).2
def recoN (g : ByteArray) (sy : Int) : Int := if 8000 < g.size then sy else ((stateL g).2 : Int)
theorem recoL_none (g : ByteArray) (sy : Int) (h : 8000 < g.size) : recoL g = g ∧ recoN g sy = sy := ⟨if_pos h, if_pos h⟩
theorem recoL_some (g : ByteArray) (sy : Int) (h : ¬ 8000 < g.size) : ∃ n : Int, ((stateL g).2 : Int) = n ∧ 0 ≤ n ∧ n ≤ (g.size : Int) ∧ recoL g = g.extract 0 n.toNat ∧ recoN g sy = n := by
  have h2 := (stateL_right g).2.1
  refine ⟨_, rfl, by omega, by omega, ?_, if_neg h⟩
  unfold recoL
  rw [if_neg h]
  rfl
set_option maxRecDepth 100000 in
set_option maxHeartbeats 1600000 in
theorem specRecover_any (g : ByteArray) (sy : Int) (w : World) (hs : g.size ≤ maxLen) : Calls Tryz.prog 5 #[.agg #[.string g, .int .i64 sy]] w fun e w' => e = .returned (.agg #[.string (recoL g), .int .i64 (recoN g sy)]) ∧ Below w.heap.size w w' := by
  unfold maxLen at hs
  by_cases hbig : 8000 < g.size
  · obtain ⟨hl, hn⟩ := recoL_none g sy hbig
    have HL : Hid (recoL g = g) := hl
    have HN : Hid (recoN g sy = sy) := hn
    have hbig2 : (8000 : Int) < (g.size : Int) := by omega
    clear hl hn
    go_enter Tryz.func5, Tryz.ntmps5
    go_wp2
    exact bodyPost_ret (results_cell_row Tryz.results5 _ _ (w.heap.size + 1) 25 _ (0, 0) _ rfl (heap_new2 w _ _) Tryz.underlying25 rfl (by kernel_rfl)) rfl ⟨ret_shop HL.out.symm HN.out.symm, below_more (below_new _ _) _⟩
  · obtain ⟨n, hst, h0, h1, hl, hn⟩ := recoL_some g sy hbig
    have HL : Hid (recoL g = g.extract 0 n.toNat) := hl
    have HN : Hid (recoN g sy = n) := hn
    have HST : Hid (((stateL g).2 : Int) = n) := hst
    have hbig2 : ¬ (8000 : Int) < (g.size : Int) := by omega
    clear hl hn hst
    go_enter Tryz.func5, Tryz.ntmps5
    go_wp2_with fail
    refine (l08State_any g _ (by omega)).mono ?_
    rintro e x ⟨⟨v, rfl, ho⟩, hb⟩
    unfold StR
    rw [HST.out]
    have hfd := field_at (stateL g).1.2.1 (stateL g).1.2.2 n v
    have HX : Hid (x.heap[w.heap.size]? = _) := heap_keep (heap_more (heap_alloc_new w (.cells #[.string g, .int .i64 sy] 25)) _) hb
    have HY : Hid (x.heap[w.heap.size + 1]? = _) := heap_keep (heap_new2 w (.cells #[.string g, .int .i64 sy] 25) (.cells #[.string ⟨#[]⟩, .int .i64 0] 25)) hb
    have HB : Hid (Below w.heap.size w x) := below_call (below_more (below_new w _) _) hb
    obtain ⟨c0, c1, f0, f1⟩ := two_cells HX.out
    clear hb ho
    obtain ⟨d0, d1, h0x, h1x⟩ := two_cells HY.out
    go_wp2
    exact bodyPost_ret (results_cell_row Tryz.results5 _ _ (w.heap.size + 1) 25 _ (0, 0) _ rfl (set_two HY.out) Tryz.underlying25 rfl (by kernel_rfl)) rfl ⟨ret_shop HL.out.symm HN.out.symm, (HB.out.setCell (by show _ ≤ w.heap.size + 1; omega) _).setCell (by show _ ≤ w.heap.size + 1; omega) _⟩
set_option maxRecDepth 100000 in
set_option maxHeartbeats 1600000 in
theorem implRecover_any (te : TypeId) (pe : Value) (g : ByteArray) (sy : Int) (w : World) (hs : g.size ≤ 1048576) (hP : PanV te pe w) (hE : ErrV w) : Calls Tryz.prog 7 #[.agg #[.string g, .int .i64 sy]] w fun e w' => e = .returned (.agg #[.string (recoL g), .int .i64 (recoN g sy)]) ∧ Below w.heap.size w w' := by
  have HS : Hid (g.size ≤ maxLen) := by show _ ≤ _; unfold maxLen; omega
  have HP : Hid (PanV te pe w) := hP
  have HE : Hid (ErrV w) := hE
  clear hP hE
  by_cases hbig : 8000 < g.size
  · obtain ⟨hl, hn⟩ := recoL_none g sy hbig
    have HL : Hid (recoL g = g) := hl
    have HN : Hid (recoN g sy = sy) := hn
    have hbig2 : (8000 : Int) < (g.size : Int) := by omega
    clear hl hn
    go_enter Tryz.func7, Tryz.ntmps7
    go_wp2_with fail
    refine (shopOf_any g sy _ (by omega)).mono ?_
    rintro e x ⟨rfl, hb⟩
    have HX : Hid (x.heap[w.heap.size + 1]? = _) := heap_keep (heap_new2 w (.cells #[.string g, .int .i64 sy] 25) (.cells #[.string ⟨#[]⟩, .int .i64 0] 25)) hb
    have HB : Hid (Below w.heap.size w x) := below_call (below_more (below_new w _) _) hb
    obtain ⟨c0, c1, f0, f1⟩ := two_cells HX.out
    clear hb
    go_wp2
    exact bodyPost_ret (results_cell_row Tryz.results7 _ _ (w.heap.size + 1) 25 _ (0, 0) _ rfl (set_two HX.out) Tryz.underlying25 rfl (by kernel_rfl)) rfl ⟨ret_shop HL.out.symm HN.out.symm, (HB.out.setCell (by show _ ≤ w.heap.size + 1; omega) _).setCell (by show _ ≤ w.heap.size + 1; omega) _⟩
  · obtain ⟨n, hst, h0, h1, hl, hn⟩ := recoL_some g sy hbig
    have HL : Hid (recoL g = g.extract 0 n.toNat) := hl
    have HN : Hid (recoN g sy = n) := hn
    have HST : Hid (((stateL g).2 : Int) = n) := hst
    have hbig2 : ¬ (8000 : Int) < (g.size : Int) := by omega
    clear hl hn hst
    go_enter Tryz.func7, Tryz.ntmps7
    go_wp2_with fail
    refine (implStateOf_any te pe g _ HS.out ((HP.out.alloc _).alloc _) ((HE.out.alloc _).alloc _)).mono ?_
    rintro e x ⟨⟨v, rfl, ho⟩, hb⟩
    rw [show stOf g = stateL g from if_neg hbig]
    unfold StR
    rw [HST.out]
    have hfd := field_at (stateL g).1.2.1 (stateL g).1.2.2 n v
    have HX : Hid (x.heap[w.heap.size]? = _) := heap_keep (heap_more (heap_alloc_new w (.cells #[.string g, .int .i64 sy] 25)) _) hb
    have HY : Hid (x.heap[w.heap.size + 1]? = _) := heap_keep (heap_new2 w (.cells #[.string g, .int .i64 sy] 25) (.cells #[.string ⟨#[]⟩, .int .i64 0] 25)) hb
    have HB : Hid (Below w.heap.size w x) := below_call (below_more (below_new w _) _) hb
    obtain ⟨c0, c1, f0, f1⟩ := two_cells HX.out
    clear hb ho
    go_wp2_with fail
    refine (shopOf_any (g.extract 0 n.toNat) n _ (by rw [ByteArray.size_extract]; omega)).mono ?_
    rintro e y ⟨rfl, hb⟩
    have HYy : Hid (y.heap[w.heap.size + 1]? = _) := heap_keep HY.out hb
    have HBy : Hid (Below w.heap.size w y) := below_call HB.out hb
    obtain ⟨d0, d1, h0x, h1x⟩ := two_cells HYy.out
    clear hb c0 c1 f0 f1
    go_wp2
    exact bodyPost_ret (results_cell_row Tryz.results7 _ _ (w.heap.size + 1) 25 _ (0, 0) _ rfl (set_two HYy.out) Tryz.underlying25 rfl (by kernel_rfl)) rfl ⟨ret_shop HL.out.symm HN.out.symm, (HBy.out.setCell (by show _ ≤ w.heap.size + 1; omega) _).setCell (by show _ ≤ w.heap.size + 1; omega) _⟩
set_option maxRecDepth 100000 in
set_option maxHeartbeats 3200000 in
theorem lawShopRecover_walk (g : ByteArray) (sy : Int) (w : World) (hs : g.size ≤ maxLen) (hT : StV w) :
    Calls Tryz.prog 3 #[.agg #[.string g, .int .i64 sy]] w fun e w' => e = .returned (.bool true) ∧ Below w.heap.size w w' := by
  obtain ⟨hE, te, pe, hP⟩ := hT
  have HE : Hid (ErrV w) := hE
  have HP : Hid (PanV te pe w) := hP
  have HS : Hid (g.size ≤ maxLen) := hs
  clear hE hP hs
  go_enter Tryz.func3, Tryz.ntmps3
  go_wp2_with fail
  refine (szShop_any g sy _ _ HS.out (by omega) (by omega)).mono ?_
  rintro e x1 ⟨r, rfl, hr1, hr, hb⟩
  have HB1 : Hid (Below w.heap.size w x1) := below_call (below_new w _) hb
  have HG1 : Hid (x1.heap[w.heap.size]? = _) := heap_keep (heap_alloc_new w (.cells #[.string g, .int .i64 sy] 23)) hb
  obtain ⟨c0, c1, _⟩ := two_cells HG1.out
  have hz1 := heap_lt HG1.out
  have HRR : Hid (¬ r < 0 → g.size ≤ 1048576) := hr
  clear hb hr
  by_cases hneg : r < 0
  · go_wp2
    go_ret
    exact ⟨rfl, HB1.out⟩
  · have hgs := HRR.out hneg
    obtain ⟨m, hm⟩ : ∃ m, recoN g sy = m := ⟨_, rfl⟩
    have HM : Hid (recoN g sy = m) := hm
    obtain ⟨q, hq⟩ : ∃ q, recoL g = q := ⟨_, rfl⟩
    have HQ : Hid (recoL g = q) := hq
    clear hm hq
    go_wp2_with fail
    refine (toShop_any g sy _).mono ?_
    rintro e x2 ⟨rfl, hb⟩
    have HB2 : Hid (Below w.heap.size w x2) := below_call HB1.out hb
    have HG2 : Hid (_ = _) := heap_keep HG1.out hb
    clear hb
    go_wp2_with fail
    refine (specRecover_any g sy _ HS.out).mono ?_
    rintro e x3 ⟨rfl, hb⟩
    rw [HM.out, HQ.out]
    have HB3 : Hid (Below w.heap.size w x3) := below_call HB2.out hb
    have HG3 : Hid (_ = _) := heap_keep HG2.out hb
    obtain ⟨d0, d1, _⟩ := two_cells HG3.out
    have hz3 := heap_lt HG3.out
    have HA3 : Hid ((x3.alloc (.cells #[.string q, .int .i64 m] 25)).heap[x3.heap.size]? = _) := heap_alloc_new x3 _
    clear hb c0 c1
    go_wp2_with fail
    refine (toShop_any g sy _).mono ?_
    rintro e x4 ⟨rfl, hb⟩
    have HB4 : Hid (Below w.heap.size w x4) := below_call (below_more HB3.out _) hb
    have HA4 : Hid (x4.heap[x3.heap.size]? = _) := heap_keep HA3.out hb
    clear hb d0 d1
    go_wp2_with fail
    refine (implRecover_any te pe g sy _ hgs (HP.out.below HB4.out) (HE.out.below HB4.out)).mono ?_
    rintro e x5 ⟨rfl, hb⟩
    rw [HM.out, HQ.out]
    have HB5 : Hid (Below w.heap.size w x5) := below_call HB4.out hb
    have HA5 : Hid (x5.heap[x3.heap.size]? = _) := heap_keep HA4.out hb
    obtain ⟨d0, d1, _⟩ := two_cells HA5.out
    have hz5 := heap_lt HA5.out
    clear hb
    go_wp2_with fail
    refine (eqShop_any q m _).mono ?_
    rintro e x6 ⟨rfl, hb⟩
    have HB6 : Hid (Below w.heap.size w x6) := below_call (below_more HB5.out _) hb
    clear hb
    go_wp2
    go_ret
    exact ⟨rfl, HB6.out⟩
end Go.Proofs.YtnhehdobpibgkabGreatDoor
