/- A source is put among sources, by the program. -/
import Derived.Test.YtnhehdobpibgkaaGreatDoorRows
import Derived.WalkKit
import Derived.WalkSpells
import Derived.WalkLawsBesides
import Derived.Outline
import Derived.RegionTactic
import Derived.BigRegion
import Derived.Deep.RegionHeld3
import Derived.Test.YtnhehdobpibgkaaGreatDoorBun0
import Derived.Test.YtnhehdobpibgkaaGreatDoorPlcPZq
import Derived.Test.YtnhehdobpibgkaaGreatDoorGrowPZq
import Derived.Test.YtnhehdobpibgkaaGreatDoorBun33
import Derived.Test.YtnhehdobpibgkaaGreatDoorPutSZq
namespace Go.Proofs.YtnhehdobpibgkaaGreatDoor
open Go.RowKit
set_option linter.unusedVariables false

theorem place_is {a : Option Addr} {L : List Src} {n cap : Nat} {nm : ByteArray} {w : World} {p : Nat} {bb : Bool} (hp : plcL L nm = p) (hh : hasL L nm = bb) (hR : RowIs 2 srcC w a L) (hn : L.length = n) (hl : n ≤ 100) (hS : Srt L) : Calls Tryz.prog 80 #[.slice a n cap, .string nm] w fun e w' => e = .returned (.tuple #[.int .i64 (p : Int), .bool bb]) ∧ Below w.heap.size w w' := by
  subst hp; subst hh; exact place_any a L n cap nm w hR hn hl hS
theorem sources_is {a : Option Addr} {L : List Src} {n cap : Nat} {w : World} {bb : Bool} (hb : srcsB L = bb) (hR : RowIs 2 srcC w a L) (hn : L.length = n) (hl : n ≤ 2000000) (hs : ∀ s ∈ L, fitsS s) : Calls Tryz.prog 82 #[.slice a n cap] w fun e w' => e = .returned (.bool bb) ∧ Below w.heap.size w w' := by
  subst hb; subst hn; exact implSources_any a L cap w hR hl hs
theorem cell_at3 {W : World} {g : Nat} {t : TypeId} {u0 u1 u2 : Value} (h : W.heap[g]? = some (.cells #[u0, u1, u2] t (0, 0))) : ∀ j, j < 3 → W.cell? ⟨g, j, none⟩ = #[u0, u1, u2][j]? := fun j hj => cell_of_row _ _ _ _ _ _ h
theorem cell_at2 {W : World} {g : Nat} {t : TypeId} {u0 u1 : Value} (h : W.heap[g]? = some (.cells #[u0, u1] t (0, 0))) : ∀ j, j < 2 → W.cell? ⟨g, j, none⟩ = #[u0, u1][j]? := fun j hj => cell_of_row _ _ _ _ _ _ h
theorem concat3 (a1 a3 : Option Addr) (L1 L3 R : List Src) (n1 c1 n3 c3 g : Nat) (nm tx : ByteArray) (xc : World) (hg : xc.heap.size = g) (h1 : RowIs 2 srcC xc a1 L1) (e1 : L1.length = n1) (k1 : a1 = none → c1 = 0) (h3 : RowIs 2 srcC xc a3 L3) (e3 : L3.length = n3) (k3 : a3 = none → c3 = 0) (l1 : n1 ≤ 1000) (l3 : n3 ≤ 1000) (hR : L1 ++ ((nm, tx) :: L3) = R) :
    Calls Tryz.prog 81 #[.slice (some ⟨g + 1, 0, none⟩) 3 3] (((xc.alloc (.cells #[.string nm, .string tx] 74)).alloc (.cells #[.slice a1 n1 c1, .slice (some ⟨g, 0, none⟩) 1 1, .slice a3 n3 c3] 45)).drew) fun e w' => (∃ v, e = .returned v ∧ OwnR w' xc.heap.size v R) ∧ Below xc.heap.size xc w' := by
  subst hg; subst e1; subst e3; subst hR
  have hb : Below xc.heap.size xc (((xc.alloc (.cells #[.string nm, .string tx] 74)).alloc (.cells #[.slice a1 L1.length c1, .slice (some ⟨xc.heap.size, 0, none⟩) 1 1, .slice a3 L3.length c3] 45)).drew) := (below_more (below_new _ _) _).drew
  have hcell := cell_at3 (heap_drewn (heap_new2 xc (.cells #[.string nm, .string tx] 74) (.cells #[.slice a1 L1.length c1, .slice (some ⟨xc.heap.size, 0, none⟩) 1 1, .slice a3 L3.length c3] 45)))
  have hsz : xc.heap.size + 2 = ((((xc.alloc (.cells #[.string nm, .string tx] 74)).alloc (.cells #[.slice a1 L1.length c1, .slice (some ⟨xc.heap.size, 0, none⟩) 1 1, .slice a3 L3.length c3] 45)).drew)).heap.size := by simp
  have hnew := ((new_src (W := xc) rfl (nm, tx)).alloc (.cells #[.slice a1 L1.length c1, .slice (some ⟨xc.heap.size, 0, none⟩) 1 1, .slice a3 L3.length c3] 45)).below (Below.refl _ _).drew
  refine (concatSrc_any [(a1, L1, c1), (some ⟨xc.heap.size, 0, none⟩, [(nm, tx)], 1), (a3, L3, c3)] (xc.heap.size + 1) 3 _ rfl (by omega) (by omega) (fun j hj => ?_) (fun p hp => ?_)).mono ?_
  · have hj3 : j < 3 := hj
    rw [hcell j hj3]
    obtain rfl | rfl | rfl : j = 0 ∨ j = 1 ∨ j = 2 := by omega
    · rfl
    · rfl
    · rfl
  · simp only [List.mem_cons, List.not_mem_nil, or_false] at hp
    rcases hp with rfl | rfl | rfl
    · exact ⟨h1.below hb, k1, l1⟩
    · exact ⟨hnew, (fun h => by cases h), by simp⟩
    · exact ⟨h3.below hb, k3, l3⟩
  · rintro e w' ⟨⟨v, rfl, ho⟩, hb2⟩
    refine ⟨⟨v, rfl, ?_⟩, below_call hb hb2⟩
    have h := OwnX.low ho (show xc.heap.size ≤ _ by omega)
    simpa using h
theorem concat2 (a1 a3 : Option Addr) (L1 L3 R : List Src) (n1 c1 n3 c3 g : Nat) (xc : World) (hg : xc.heap.size = g) (h1 : RowIs 2 srcC xc a1 L1) (e1 : L1.length = n1) (k1 : a1 = none → c1 = 0) (h3 : RowIs 2 srcC xc a3 L3) (e3 : L3.length = n3) (k3 : a3 = none → c3 = 0) (l1 : n1 ≤ 1000) (l3 : n3 ≤ 1000) (hR : L1 ++ L3 = R) :
    Calls Tryz.prog 81 #[.slice (some ⟨g, 0, none⟩) 2 2] ((xc.alloc (.cells #[.slice a1 n1 c1, .slice a3 n3 c3] 45)).drew) fun e w' => (∃ v, e = .returned v ∧ OwnR w' xc.heap.size v R) ∧ Below xc.heap.size xc w' := by
  subst hg; subst e1; subst e3; subst hR
  have hb : Below xc.heap.size xc ((xc.alloc (.cells #[.slice a1 L1.length c1, .slice a3 L3.length c3] 45)).drew) := (below_new _ _).drew
  have hcell := cell_at2 (heap_drewn (heap_alloc_new xc (.cells #[.slice a1 L1.length c1, .slice a3 L3.length c3] 45)))
  have hsz : xc.heap.size + 1 = ((xc.alloc (.cells #[.slice a1 L1.length c1, .slice a3 L3.length c3] 45)).drew).heap.size := by simp
  refine (concatSrc_any [(a1, L1, c1), (a3, L3, c3)] xc.heap.size 2 _ rfl (by omega) (by omega) (fun j hj => ?_) (fun p hp => ?_)).mono ?_
  · have hj3 : j < 2 := hj
    rw [hcell j hj3]
    obtain rfl | rfl : j = 0 ∨ j = 1 := by omega
    · rfl
    · rfl
  · simp only [List.mem_cons, List.not_mem_nil, or_false] at hp
    rcases hp with rfl | rfl
    · exact ⟨h1.below hb, k1, l1⟩
    · exact ⟨h3.below hb, k3, l3⟩
  · rintro e w' ⟨⟨v, rfl, ho⟩, hb2⟩
    refine ⟨⟨v, rfl, ?_⟩, below_call hb hb2⟩
    have h := OwnX.low ho (show xc.heap.size ≤ _ by omega)
    simpa using h
set_option maxRecDepth 100000 in
set_option maxHeartbeats 3200000 in
theorem put_any (te : TypeId) (pe : Value) (b : Nat) (S : List Src) (im : ByteArray) (n : Nat) (at_ : Int) (nm tx : ByteArray) (w : World) (h : LgIs w b (S, im, n) at_) (hr : rightT (S, im, n)) (h1 : nm.size ≤ 8000) (h2 : tx.size ≤ 8000) (hP : PanV te pe w) (hG : 0 ≠ b) :
    Calls Tryz.prog 67 #[.pointer (some ⟨b, 0, none⟩), .agg #[.string nm, .string tx]] w (PD te pe b (S, im, n) at_ (putO S im n (nm, tx)) w) := by
  obtain ⟨v, hrow, hown⟩ := h
  obtain ⟨a, cap, rfl, hR, hn, hc, hm⟩ := hown.rows srcC_len
  have HS : Hid (Srt S) := hr.1
  have hl : S.length ≤ 20 := hr.2.1
  have HZ : Hid (∀ s ∈ S, s.1.size ≤ 8000 ∧ s.2.size ≤ 8000) := hr.2.2.1
  have HRw : Hid (w.heap[b]? = _) := hrow
  have HOw : Hid (OwnR w (b + 1) (.slice a S.length cap) S) := hown
  have HR : Hid (RowIs 2 srcC w a S) := hR
  have HN : Hid (a = none → cap = 0) := hn
  have HM : Hid (cap ≤ maxLen) := hm
  have HP : Hid (PanV te pe w) := hP
  have hbw := heap_lt hrow
  clear hrow hown hR hn hm hP hr
  dsimp only at *
  obtain ⟨p, hp⟩ : ∃ p, plcL S nm = p := ⟨_, rfl⟩
  have hpl : p ≤ S.length := by rw [← hp]; exact plc_le S nm
  have HPL : Hid (plcL S nm = p) := hp
  clear hp
  cases a with
  | none =>
    obtain rfl : S = [] := by
      cases S with
      | nil => rfl
      | cons s L => obtain ⟨y, hy, _⟩ := HR.out (by simp); cases hy
    obtain rfl := HN.out rfl
    obtain rfl : p = 0 := by simpa using hpl
    have HH : Hid (hasL [] nm = false) := rfl
    have HPUT : Hid (([] : List Src) ++ ((nm, tx) :: []) = putR [] (nm, tx)) := by show _ = _; unfold putR; rw [HPL.out, HH.out]; rfl
    have HFT : Hid (∀ s ∈ putR [] (nm, tx), fitsS s) := fun s hs => by
      rcases put_mem hs with rfl | hs
      · exact ⟨by show nm.size ≤ _; omega, by show tx.size ≤ _; omega⟩
      · have := HZ.out s hs; exact ⟨by omega, by omega⟩
    have hlen : (putR [] (nm, tx)).length ≤ 21 := by have := put_len ([] : List Src) (nm, tx); simp at this; omega
    have HVc : Hid ((w.alloc (.cells #[.string nm, .string tx] 74)).heap[w.heap.size]? = _) := heap_alloc_new w _
    have HRc : Hid ((w.alloc (.cells #[.string nm, .string tx] 74)).heap[b]? = some (.cells #[.slice none 0 0, .string im, .int .i64 (n : Int), .int .i64 at_] 47 (0, 0))) := heap_more HRw.out _
    have HBc : Hid (Below w.heap.size w (w.alloc (.cells #[.string nm, .string tx] 74))) := below_new w _
    have c0 := row40 HRc.out
    have c1 := row20 HVc.out
    cases hq : srcsB (putR [] (nm, tx))
    · have HQ : Hid (srcsB (putR [] (nm, tx)) = false) := hq
      clear hq
      go_enter Tryz.func67, Tryz.ntmps67
      go_wp2_with fail
      go_region_held3 (fun w' => w'.cell? ⟨b, 0, none⟩ = some (.slice none 0 0) ∧ w'.cell? ⟨w.heap.size, 0, none⟩ = some (.string nm)) (exact ⟨row40 (by repeat (first | with_reducible exact HRc.out | with_reducible apply heap_drewn | with_reducible apply heap_more)), row20 (by repeat (first | with_reducible exact HVc.out | with_reducible apply heap_drewn | with_reducible apply heap_more))⟩) (first
        | (go_at_call 80; refine (place_is HPL.out HH.out (HR.out.below (by repeat (first | with_reducible exact HBc.out | with_reducible refine Below.drew ?_))) rfl (by simp) HS.out).mono ?_; rintro e xc ⟨rfl, hb⟩; have HVc : Hid (_ = _) := heap_keep (by repeat (first | with_reducible exact HVc.out | with_reducible apply heap_drewn | with_reducible apply heap_more)) hb; have HRc : Hid (_ = _) := heap_keep (by repeat (first | with_reducible exact HRc.out | with_reducible apply heap_drewn | with_reducible apply heap_more)) hb; have HBc : Hid (Below w.heap.size w xc) := below_call (by repeat (first | with_reducible exact HBc.out | with_reducible refine Below.drew ?_)) hb; clear hb))
      all_goals
        obtain ⟨e0, e1, e2, e3⟩ := two_cells HVc.out
        have d0 := row40 HRc.out
        go_wp2_with fail
        go_region_held3 (fun w' => w'.cell? ⟨b, 0, none⟩ = some (.slice none 0 0) ∧ w'.cell? ⟨w.heap.size, 0, none⟩ = some (.string nm) ∧ w'.cell? ⟨w.heap.size, 1, none⟩ = some (.string tx)) (exact ⟨row40 (by repeat (first | with_reducible exact HRc.out | with_reducible apply heap_drewn | with_reducible apply heap_more)), row20 (by repeat (first | with_reducible exact HVc.out | with_reducible apply heap_drewn | with_reducible apply heap_more)), row21 (by repeat (first | with_reducible exact HVc.out | with_reducible apply heap_drewn | with_reducible apply heap_more))⟩) (first
          | (go_at_call 81; refine (concat3 none none [] [] _ 0 0 0 0 _ nm tx _ rfl RowIs.nil rfl (fun _ => rfl) RowIs.nil rfl (fun _ => rfl) (by omega) (by omega) HPUT.out).mono ?_; rintro e yc ⟨⟨vv, rfl, ho⟩, hb⟩; have HOc : Hid (OwnR yc (b + 1) vv (putR [] (nm, tx))) := ho.low (by have := HBc.out.size; omega); obtain ⟨ar, cr, rfl, hRr, hnr, hcr, hmr⟩ := HOc.out.rows srcC_len; have HRr : Hid (RowIs 2 srcC yc ar (putR [] (nm, tx))) := hRr; have HVc : Hid (_ = _) := heap_keep (by repeat (first | with_reducible exact HVc.out | with_reducible apply heap_drewn | with_reducible apply heap_more)) hb; have HRc : Hid (_ = _) := heap_keep (by repeat (first | with_reducible exact HRc.out | with_reducible apply heap_drewn | with_reducible apply heap_more)) hb; have HBc : Hid (Below w.heap.size w yc) := below_call (by repeat (first | with_reducible exact HBc.out | with_reducible refine Below.drew ?_)) hb; clear hb ho hRr hnr hcr hmr))
        all_goals
          go_wp2_with fail
          refine (sources_is HQ.out HRr.out rfl (by omega) HFT.out).mono ?_
          rintro e z ⟨rfl, hb⟩
          have HRz : Hid (z.heap[b]? = _) := heap_keep HRc.out hb
          have HBz : Hid (Below w.heap.size w z) := below_call HBc.out hb
          have HOz : Hid (OwnR z (b + 1) _ (putR [] (nm, tx))) := HOc.out.call hb
          clear hb
          go_wp2_with fail
          refine (mustBe_no te pe _ (HP.out.below HBz.out)).mono ?_
          rintro e z2 ⟨rfl, hz⟩
          have hz2 := hz.symm
          clear hz
          subst hz2
          exact ⟨rfl, But.of HBz.out, .inr ⟨by unfold putO; rw [if_neg (by rw [HQ.out]; simp)], rfl, ⟨_, HRz.out, HOw.out.call HBz.out⟩⟩⟩
    · have HQ : Hid (srcsB (putR [] (nm, tx)) = true) := hq
      clear hq
      go_enter Tryz.func67, Tryz.ntmps67
      go_wp2_with fail
      go_region_held3 (fun w' => w'.cell? ⟨b, 0, none⟩ = some (.slice none 0 0) ∧ w'.cell? ⟨w.heap.size, 0, none⟩ = some (.string nm)) (exact ⟨row40 (by repeat (first | with_reducible exact HRc.out | with_reducible apply heap_drewn | with_reducible apply heap_more)), row20 (by repeat (first | with_reducible exact HVc.out | with_reducible apply heap_drewn | with_reducible apply heap_more))⟩) (first
        | (go_at_call 80; refine (place_is HPL.out HH.out (HR.out.below (by repeat (first | with_reducible exact HBc.out | with_reducible refine Below.drew ?_))) rfl (by simp) HS.out).mono ?_; rintro e xc ⟨rfl, hb⟩; have HVc : Hid (_ = _) := heap_keep (by repeat (first | with_reducible exact HVc.out | with_reducible apply heap_drewn | with_reducible apply heap_more)) hb; have HRc : Hid (_ = _) := heap_keep (by repeat (first | with_reducible exact HRc.out | with_reducible apply heap_drewn | with_reducible apply heap_more)) hb; have HBc : Hid (Below w.heap.size w xc) := below_call (by repeat (first | with_reducible exact HBc.out | with_reducible refine Below.drew ?_)) hb; clear hb))
      all_goals
        obtain ⟨e0, e1, e2, e3⟩ := two_cells HVc.out
        have d0 := row40 HRc.out
        go_wp2_with fail
        go_region_held3 (fun w' => w'.cell? ⟨b, 0, none⟩ = some (.slice none 0 0) ∧ w'.cell? ⟨w.heap.size, 0, none⟩ = some (.string nm) ∧ w'.cell? ⟨w.heap.size, 1, none⟩ = some (.string tx)) (exact ⟨row40 (by repeat (first | with_reducible exact HRc.out | with_reducible apply heap_drewn | with_reducible apply heap_more)), row20 (by repeat (first | with_reducible exact HVc.out | with_reducible apply heap_drewn | with_reducible apply heap_more)), row21 (by repeat (first | with_reducible exact HVc.out | with_reducible apply heap_drewn | with_reducible apply heap_more))⟩) (first
          | (go_at_call 81; refine (concat3 none none [] [] _ 0 0 0 0 _ nm tx _ rfl RowIs.nil rfl (fun _ => rfl) RowIs.nil rfl (fun _ => rfl) (by omega) (by omega) HPUT.out).mono ?_; rintro e yc ⟨⟨vv, rfl, ho⟩, hb⟩; have HOc : Hid (OwnR yc (b + 1) vv (putR [] (nm, tx))) := ho.low (by have := HBc.out.size; omega); obtain ⟨ar, cr, rfl, hRr, hnr, hcr, hmr⟩ := HOc.out.rows srcC_len; have HRr : Hid (RowIs 2 srcC yc ar (putR [] (nm, tx))) := hRr; have HVc : Hid (_ = _) := heap_keep (by repeat (first | with_reducible exact HVc.out | with_reducible apply heap_drewn | with_reducible apply heap_more)) hb; have HRc : Hid (_ = _) := heap_keep (by repeat (first | with_reducible exact HRc.out | with_reducible apply heap_drewn | with_reducible apply heap_more)) hb; have HBc : Hid (Below w.heap.size w yc) := below_call (by repeat (first | with_reducible exact HBc.out | with_reducible refine Below.drew ?_)) hb; clear hb ho hRr hnr hcr hmr))
        all_goals
          go_wp2_with fail
          refine (sources_is HQ.out HRr.out rfl (by omega) HFT.out).mono ?_
          rintro e z ⟨rfl, hb⟩
          have HRz : Hid (z.heap[b]? = _) := heap_keep HRc.out hb
          have HBz : Hid (Below w.heap.size w z) := below_call HBc.out hb
          have HOz : Hid (OwnR z (b + 1) _ (putR [] (nm, tx))) := HOc.out.call hb
          clear hb
          go_wp2_with fail
          refine (mustBe_yes _).mono ?_
          rintro e z2 ⟨rfl, hz⟩
          have hz2 := hz.symm
          clear hz
          subst hz2
          have f0 := row40 HRz.out
          have f1 : z.frozen? ⟨b, 0, none⟩ = false := frozen_of_row _ _ _ _ _ HRz.out
          go_wp2
          go_end0
          exact ⟨But.setB (But.of HBz.out) (p := ⟨b, 0, none⟩) rfl _, .inl ⟨_, by unfold putO; rw [if_pos HQ.out], rfl, ⟨_, heap_set HRz.out 0 _, own_set HOz.out (by omega)⟩⟩⟩
  | some x =>
    cases hh : hasL S nm
    · skip
      have HH : Hid (hasL S nm = false) := hh
      clear hh
      have HPUT : Hid (S.take p ++ ((nm, tx) :: S.drop p) = putR S (nm, tx)) := by show _ = _; unfold putR; rw [HPL.out, HH.out]; rfl
      have HFT : Hid (∀ s ∈ putR S (nm, tx), fitsS s) := fun s hs => by
        rcases put_mem hs with rfl | hs
        · exact ⟨by show nm.size ≤ _; omega, by show tx.size ≤ _; omega⟩
        · have := HZ.out s hs; exact ⟨by omega, by omega⟩
      have hlen : (putR S (nm, tx)).length ≤ 21 := by have := put_len S (nm, tx); omega
      have HVc : Hid ((w.alloc (.cells #[.string nm, .string tx] 74)).heap[w.heap.size]? = _) := heap_alloc_new w _
      have HRc : Hid ((w.alloc (.cells #[.string nm, .string tx] 74)).heap[b]? = _) := heap_more HRw.out _
      have HBc : Hid (Below w.heap.size w (w.alloc (.cells #[.string nm, .string tx] 74))) := below_new w _
      have c0 := row40 HRc.out
      have c1 := row20 HVc.out
      cases hq : srcsB (putR S (nm, tx))
      · have HQ : Hid (srcsB (putR S (nm, tx)) = false) := hq
        clear hq
        go_enter Tryz.func67, Tryz.ntmps67
        go_wp2_with fail
        go_region_held3 (fun w' => w'.cell? ⟨b, 0, none⟩ = some (.slice (some x) S.length cap) ∧ w'.cell? ⟨w.heap.size, 0, none⟩ = some (.string nm)) (exact ⟨row40 (by repeat (first | with_reducible exact HRc.out | with_reducible apply heap_drewn | with_reducible apply heap_more)), row20 (by repeat (first | with_reducible exact HVc.out | with_reducible apply heap_drewn | with_reducible apply heap_more))⟩) (first
          | (go_at_call 80; refine (place_is HPL.out HH.out (HR.out.below (by repeat (first | with_reducible exact HBc.out | with_reducible refine Below.drew ?_))) rfl (by omega) HS.out).mono ?_; rintro e xc ⟨rfl, hb⟩; have HVc : Hid (_ = _) := heap_keep (by repeat (first | with_reducible exact HVc.out | with_reducible apply heap_drewn | with_reducible apply heap_more)) hb; have HRc : Hid (_ = _) := heap_keep (by repeat (first | with_reducible exact HRc.out | with_reducible apply heap_drewn | with_reducible apply heap_more)) hb; have HBc : Hid (Below w.heap.size w xc) := below_call (by repeat (first | with_reducible exact HBc.out | with_reducible refine Below.drew ?_)) hb; clear hb))
        all_goals
          obtain ⟨e0, e1, e2, e3⟩ := two_cells HVc.out
          have d0 := row40 HRc.out
          have hcf := cut_front (x := x) 45 Tryz.underlying45 hpl hc HM.out
          obtain ⟨yt, hcut, hrt⟩ := cut_tail (k := p) (L := S) (x := x) (cap := cap) 45 Tryz.underlying45 (HR.out.below HBc.out) (by omega) hc HM.out (p : Int) (by omega)
          have HRT : Hid (RowIs 2 srcC _ (some yt) (S.drop p)) := hrt
          clear hrt
          go_wp2_with fail
          go_region_held3 (fun w' => w'.cell? ⟨b, 0, none⟩ = some (.slice (some x) S.length cap) ∧ w'.cell? ⟨w.heap.size, 0, none⟩ = some (.string nm) ∧ w'.cell? ⟨w.heap.size, 1, none⟩ = some (.string tx)) (exact ⟨row40 (by repeat (first | with_reducible exact HRc.out | with_reducible apply heap_drewn | with_reducible apply heap_more)), row20 (by repeat (first | with_reducible exact HVc.out | with_reducible apply heap_drewn | with_reducible apply heap_more)), row21 (by repeat (first | with_reducible exact HVc.out | with_reducible apply heap_drewn | with_reducible apply heap_more))⟩) (first
            | (go_at_call 81; refine (concat3 (some x) (some yt) (S.take p) (S.drop p) _ p cap (S.length - p) (cap - p) _ nm tx _ rfl ((HR.out.below HBc.out).take _) (by rw [List.length_take]; omega) (fun h => by cases h) HRT.out (by rw [List.length_drop]) (fun h => by cases h) (by omega) (by omega) HPUT.out).mono ?_; rintro e yc ⟨⟨vv, rfl, ho⟩, hb⟩; have HOc : Hid (OwnR yc (b + 1) vv (putR S (nm, tx))) := ho.low (by have := HBc.out.size; omega); obtain ⟨ar, cr, rfl, hRr, hnr, hcr, hmr⟩ := HOc.out.rows srcC_len; have HRr : Hid (RowIs 2 srcC yc ar (putR S (nm, tx))) := hRr; have HVc : Hid (_ = _) := heap_keep (by repeat (first | with_reducible exact HVc.out | with_reducible apply heap_drewn | with_reducible apply heap_more)) hb; have HRc : Hid (_ = _) := heap_keep (by repeat (first | with_reducible exact HRc.out | with_reducible apply heap_drewn | with_reducible apply heap_more)) hb; have HBc : Hid (Below w.heap.size w yc) := below_call (by repeat (first | with_reducible exact HBc.out | with_reducible refine Below.drew ?_)) hb; clear hb ho hRr hnr hcr hmr))
          all_goals
            go_wp2_with fail
            refine (sources_is HQ.out HRr.out rfl (by omega) HFT.out).mono ?_
            rintro e z ⟨rfl, hb⟩
            have HRz : Hid (z.heap[b]? = _) := heap_keep HRc.out hb
            have HBz : Hid (Below w.heap.size w z) := below_call HBc.out hb
            have HOz : Hid (OwnR z (b + 1) _ (putR S (nm, tx))) := HOc.out.call hb
            clear hb
            go_wp2_with fail
            refine (mustBe_no te pe _ (HP.out.below HBz.out)).mono ?_
            rintro e z2 ⟨rfl, hz⟩
            have hz2 := hz.symm
            clear hz
            subst hz2
            exact ⟨rfl, But.of HBz.out, .inr ⟨by unfold putO; rw [if_neg (by rw [HQ.out]; simp)], rfl, ⟨_, HRz.out, HOw.out.call HBz.out⟩⟩⟩
      · have HQ : Hid (srcsB (putR S (nm, tx)) = true) := hq
        clear hq
        go_enter Tryz.func67, Tryz.ntmps67
        go_wp2_with fail
        go_region_held3 (fun w' => w'.cell? ⟨b, 0, none⟩ = some (.slice (some x) S.length cap) ∧ w'.cell? ⟨w.heap.size, 0, none⟩ = some (.string nm)) (exact ⟨row40 (by repeat (first | with_reducible exact HRc.out | with_reducible apply heap_drewn | with_reducible apply heap_more)), row20 (by repeat (first | with_reducible exact HVc.out | with_reducible apply heap_drewn | with_reducible apply heap_more))⟩) (first
          | (go_at_call 80; refine (place_is HPL.out HH.out (HR.out.below (by repeat (first | with_reducible exact HBc.out | with_reducible refine Below.drew ?_))) rfl (by omega) HS.out).mono ?_; rintro e xc ⟨rfl, hb⟩; have HVc : Hid (_ = _) := heap_keep (by repeat (first | with_reducible exact HVc.out | with_reducible apply heap_drewn | with_reducible apply heap_more)) hb; have HRc : Hid (_ = _) := heap_keep (by repeat (first | with_reducible exact HRc.out | with_reducible apply heap_drewn | with_reducible apply heap_more)) hb; have HBc : Hid (Below w.heap.size w xc) := below_call (by repeat (first | with_reducible exact HBc.out | with_reducible refine Below.drew ?_)) hb; clear hb))
        all_goals
          obtain ⟨e0, e1, e2, e3⟩ := two_cells HVc.out
          have d0 := row40 HRc.out
          have hcf := cut_front (x := x) 45 Tryz.underlying45 hpl hc HM.out
          obtain ⟨yt, hcut, hrt⟩ := cut_tail (k := p) (L := S) (x := x) (cap := cap) 45 Tryz.underlying45 (HR.out.below HBc.out) (by omega) hc HM.out (p : Int) (by omega)
          have HRT : Hid (RowIs 2 srcC _ (some yt) (S.drop p)) := hrt
          clear hrt
          go_wp2_with fail
          go_region_held3 (fun w' => w'.cell? ⟨b, 0, none⟩ = some (.slice (some x) S.length cap) ∧ w'.cell? ⟨w.heap.size, 0, none⟩ = some (.string nm) ∧ w'.cell? ⟨w.heap.size, 1, none⟩ = some (.string tx)) (exact ⟨row40 (by repeat (first | with_reducible exact HRc.out | with_reducible apply heap_drewn | with_reducible apply heap_more)), row20 (by repeat (first | with_reducible exact HVc.out | with_reducible apply heap_drewn | with_reducible apply heap_more)), row21 (by repeat (first | with_reducible exact HVc.out | with_reducible apply heap_drewn | with_reducible apply heap_more))⟩) (first
            | (go_at_call 81; refine (concat3 (some x) (some yt) (S.take p) (S.drop p) _ p cap (S.length - p) (cap - p) _ nm tx _ rfl ((HR.out.below HBc.out).take _) (by rw [List.length_take]; omega) (fun h => by cases h) HRT.out (by rw [List.length_drop]) (fun h => by cases h) (by omega) (by omega) HPUT.out).mono ?_; rintro e yc ⟨⟨vv, rfl, ho⟩, hb⟩; have HOc : Hid (OwnR yc (b + 1) vv (putR S (nm, tx))) := ho.low (by have := HBc.out.size; omega); obtain ⟨ar, cr, rfl, hRr, hnr, hcr, hmr⟩ := HOc.out.rows srcC_len; have HRr : Hid (RowIs 2 srcC yc ar (putR S (nm, tx))) := hRr; have HVc : Hid (_ = _) := heap_keep (by repeat (first | with_reducible exact HVc.out | with_reducible apply heap_drewn | with_reducible apply heap_more)) hb; have HRc : Hid (_ = _) := heap_keep (by repeat (first | with_reducible exact HRc.out | with_reducible apply heap_drewn | with_reducible apply heap_more)) hb; have HBc : Hid (Below w.heap.size w yc) := below_call (by repeat (first | with_reducible exact HBc.out | with_reducible refine Below.drew ?_)) hb; clear hb ho hRr hnr hcr hmr))
          all_goals
            go_wp2_with fail
            refine (sources_is HQ.out HRr.out rfl (by omega) HFT.out).mono ?_
            rintro e z ⟨rfl, hb⟩
            have HRz : Hid (z.heap[b]? = _) := heap_keep HRc.out hb
            have HBz : Hid (Below w.heap.size w z) := below_call HBc.out hb
            have HOz : Hid (OwnR z (b + 1) _ (putR S (nm, tx))) := HOc.out.call hb
            clear hb
            go_wp2_with fail
            refine (mustBe_yes _).mono ?_
            rintro e z2 ⟨rfl, hz⟩
            have hz2 := hz.symm
            clear hz
            subst hz2
            have f0 := row40 HRz.out
            have f1 : z.frozen? ⟨b, 0, none⟩ = false := frozen_of_row _ _ _ _ _ HRz.out
            go_wp2
            go_end0
            exact ⟨But.setB (But.of HBz.out) (p := ⟨b, 0, none⟩) rfl _, .inl ⟨_, by unfold putO; rw [if_pos HQ.out], rfl, ⟨_, heap_set HRz.out 0 _, own_set HOz.out (by omega)⟩⟩⟩
    · skip
      have HH : Hid (hasL S nm = true) := hh
      have hp2 : p + 1 ≤ S.length := by have := (has_lt hh).1; have h := HPL.out; omega
      clear hh
      have HPUT : Hid (S.take p ++ ((nm, tx) :: S.drop (p + 1)) = putR S (nm, tx)) := by show _ = _; unfold putR; rw [HPL.out, HH.out]; rfl
      have HFT : Hid (∀ s ∈ putR S (nm, tx), fitsS s) := fun s hs => by
        rcases put_mem hs with rfl | hs
        · exact ⟨by show nm.size ≤ _; omega, by show tx.size ≤ _; omega⟩
        · have := HZ.out s hs; exact ⟨by omega, by omega⟩
      have hlen : (putR S (nm, tx)).length ≤ 21 := by have := put_len S (nm, tx); omega
      have HVc : Hid ((w.alloc (.cells #[.string nm, .string tx] 74)).heap[w.heap.size]? = _) := heap_alloc_new w _
      have HRc : Hid ((w.alloc (.cells #[.string nm, .string tx] 74)).heap[b]? = _) := heap_more HRw.out _
      have HBc : Hid (Below w.heap.size w (w.alloc (.cells #[.string nm, .string tx] 74))) := below_new w _
      have c0 := row40 HRc.out
      have c1 := row20 HVc.out
      cases hq : srcsB (putR S (nm, tx))
      · have HQ : Hid (srcsB (putR S (nm, tx)) = false) := hq
        clear hq
        go_enter Tryz.func67, Tryz.ntmps67
        go_wp2_with fail
        go_region_held3 (fun w' => w'.cell? ⟨b, 0, none⟩ = some (.slice (some x) S.length cap) ∧ w'.cell? ⟨w.heap.size, 0, none⟩ = some (.string nm)) (exact ⟨row40 (by repeat (first | with_reducible exact HRc.out | with_reducible apply heap_drewn | with_reducible apply heap_more)), row20 (by repeat (first | with_reducible exact HVc.out | with_reducible apply heap_drewn | with_reducible apply heap_more))⟩) (first
          | (go_at_call 80; refine (place_is HPL.out HH.out (HR.out.below (by repeat (first | with_reducible exact HBc.out | with_reducible refine Below.drew ?_))) rfl (by omega) HS.out).mono ?_; rintro e xc ⟨rfl, hb⟩; have HVc : Hid (_ = _) := heap_keep (by repeat (first | with_reducible exact HVc.out | with_reducible apply heap_drewn | with_reducible apply heap_more)) hb; have HRc : Hid (_ = _) := heap_keep (by repeat (first | with_reducible exact HRc.out | with_reducible apply heap_drewn | with_reducible apply heap_more)) hb; have HBc : Hid (Below w.heap.size w xc) := below_call (by repeat (first | with_reducible exact HBc.out | with_reducible refine Below.drew ?_)) hb; clear hb))
        all_goals
          obtain ⟨e0, e1, e2, e3⟩ := two_cells HVc.out
          have d0 := row40 HRc.out
          have hcf := cut_front (x := x) 45 Tryz.underlying45 hpl hc HM.out
          obtain ⟨yt, hcut, hrt⟩ := cut_tail (k := (p + 1)) (L := S) (x := x) (cap := cap) 45 Tryz.underlying45 (HR.out.below HBc.out) (by omega) hc HM.out ((p : Int) + 1) (by omega)
          have HRT : Hid (RowIs 2 srcC _ (some yt) (S.drop (p + 1))) := hrt
          clear hrt
          go_wp2_with fail
          go_region_held3 (fun w' => w'.cell? ⟨b, 0, none⟩ = some (.slice (some x) S.length cap) ∧ w'.cell? ⟨w.heap.size, 0, none⟩ = some (.string nm) ∧ w'.cell? ⟨w.heap.size, 1, none⟩ = some (.string tx)) (exact ⟨row40 (by repeat (first | with_reducible exact HRc.out | with_reducible apply heap_drewn | with_reducible apply heap_more)), row20 (by repeat (first | with_reducible exact HVc.out | with_reducible apply heap_drewn | with_reducible apply heap_more)), row21 (by repeat (first | with_reducible exact HVc.out | with_reducible apply heap_drewn | with_reducible apply heap_more))⟩) (first
            | (go_at_call 81; refine (concat3 (some x) (some yt) (S.take p) (S.drop (p + 1)) _ p cap (S.length - (p + 1)) (cap - (p + 1)) _ nm tx _ rfl ((HR.out.below HBc.out).take _) (by rw [List.length_take]; omega) (fun h => by cases h) HRT.out (by rw [List.length_drop]) (fun h => by cases h) (by omega) (by omega) HPUT.out).mono ?_; rintro e yc ⟨⟨vv, rfl, ho⟩, hb⟩; have HOc : Hid (OwnR yc (b + 1) vv (putR S (nm, tx))) := ho.low (by have := HBc.out.size; omega); obtain ⟨ar, cr, rfl, hRr, hnr, hcr, hmr⟩ := HOc.out.rows srcC_len; have HRr : Hid (RowIs 2 srcC yc ar (putR S (nm, tx))) := hRr; have HVc : Hid (_ = _) := heap_keep (by repeat (first | with_reducible exact HVc.out | with_reducible apply heap_drewn | with_reducible apply heap_more)) hb; have HRc : Hid (_ = _) := heap_keep (by repeat (first | with_reducible exact HRc.out | with_reducible apply heap_drewn | with_reducible apply heap_more)) hb; have HBc : Hid (Below w.heap.size w yc) := below_call (by repeat (first | with_reducible exact HBc.out | with_reducible refine Below.drew ?_)) hb; clear hb ho hRr hnr hcr hmr))
          all_goals
            go_wp2_with fail
            refine (sources_is HQ.out HRr.out rfl (by omega) HFT.out).mono ?_
            rintro e z ⟨rfl, hb⟩
            have HRz : Hid (z.heap[b]? = _) := heap_keep HRc.out hb
            have HBz : Hid (Below w.heap.size w z) := below_call HBc.out hb
            have HOz : Hid (OwnR z (b + 1) _ (putR S (nm, tx))) := HOc.out.call hb
            clear hb
            go_wp2_with fail
            refine (mustBe_no te pe _ (HP.out.below HBz.out)).mono ?_
            rintro e z2 ⟨rfl, hz⟩
            have hz2 := hz.symm
            clear hz
            subst hz2
            exact ⟨rfl, But.of HBz.out, .inr ⟨by unfold putO; rw [if_neg (by rw [HQ.out]; simp)], rfl, ⟨_, HRz.out, HOw.out.call HBz.out⟩⟩⟩
      · have HQ : Hid (srcsB (putR S (nm, tx)) = true) := hq
        clear hq
        go_enter Tryz.func67, Tryz.ntmps67
        go_wp2_with fail
        go_region_held3 (fun w' => w'.cell? ⟨b, 0, none⟩ = some (.slice (some x) S.length cap) ∧ w'.cell? ⟨w.heap.size, 0, none⟩ = some (.string nm)) (exact ⟨row40 (by repeat (first | with_reducible exact HRc.out | with_reducible apply heap_drewn | with_reducible apply heap_more)), row20 (by repeat (first | with_reducible exact HVc.out | with_reducible apply heap_drewn | with_reducible apply heap_more))⟩) (first
          | (go_at_call 80; refine (place_is HPL.out HH.out (HR.out.below (by repeat (first | with_reducible exact HBc.out | with_reducible refine Below.drew ?_))) rfl (by omega) HS.out).mono ?_; rintro e xc ⟨rfl, hb⟩; have HVc : Hid (_ = _) := heap_keep (by repeat (first | with_reducible exact HVc.out | with_reducible apply heap_drewn | with_reducible apply heap_more)) hb; have HRc : Hid (_ = _) := heap_keep (by repeat (first | with_reducible exact HRc.out | with_reducible apply heap_drewn | with_reducible apply heap_more)) hb; have HBc : Hid (Below w.heap.size w xc) := below_call (by repeat (first | with_reducible exact HBc.out | with_reducible refine Below.drew ?_)) hb; clear hb))
        all_goals
          obtain ⟨e0, e1, e2, e3⟩ := two_cells HVc.out
          have d0 := row40 HRc.out
          have hcf := cut_front (x := x) 45 Tryz.underlying45 hpl hc HM.out
          obtain ⟨yt, hcut, hrt⟩ := cut_tail (k := (p + 1)) (L := S) (x := x) (cap := cap) 45 Tryz.underlying45 (HR.out.below HBc.out) (by omega) hc HM.out ((p : Int) + 1) (by omega)
          have HRT : Hid (RowIs 2 srcC _ (some yt) (S.drop (p + 1))) := hrt
          clear hrt
          go_wp2_with fail
          go_region_held3 (fun w' => w'.cell? ⟨b, 0, none⟩ = some (.slice (some x) S.length cap) ∧ w'.cell? ⟨w.heap.size, 0, none⟩ = some (.string nm) ∧ w'.cell? ⟨w.heap.size, 1, none⟩ = some (.string tx)) (exact ⟨row40 (by repeat (first | with_reducible exact HRc.out | with_reducible apply heap_drewn | with_reducible apply heap_more)), row20 (by repeat (first | with_reducible exact HVc.out | with_reducible apply heap_drewn | with_reducible apply heap_more)), row21 (by repeat (first | with_reducible exact HVc.out | with_reducible apply heap_drewn | with_reducible apply heap_more))⟩) (first
            | (go_at_call 81; refine (concat3 (some x) (some yt) (S.take p) (S.drop (p + 1)) _ p cap (S.length - (p + 1)) (cap - (p + 1)) _ nm tx _ rfl ((HR.out.below HBc.out).take _) (by rw [List.length_take]; omega) (fun h => by cases h) HRT.out (by rw [List.length_drop]) (fun h => by cases h) (by omega) (by omega) HPUT.out).mono ?_; rintro e yc ⟨⟨vv, rfl, ho⟩, hb⟩; have HOc : Hid (OwnR yc (b + 1) vv (putR S (nm, tx))) := ho.low (by have := HBc.out.size; omega); obtain ⟨ar, cr, rfl, hRr, hnr, hcr, hmr⟩ := HOc.out.rows srcC_len; have HRr : Hid (RowIs 2 srcC yc ar (putR S (nm, tx))) := hRr; have HVc : Hid (_ = _) := heap_keep (by repeat (first | with_reducible exact HVc.out | with_reducible apply heap_drewn | with_reducible apply heap_more)) hb; have HRc : Hid (_ = _) := heap_keep (by repeat (first | with_reducible exact HRc.out | with_reducible apply heap_drewn | with_reducible apply heap_more)) hb; have HBc : Hid (Below w.heap.size w yc) := below_call (by repeat (first | with_reducible exact HBc.out | with_reducible refine Below.drew ?_)) hb; clear hb ho hRr hnr hcr hmr))
          all_goals
            go_wp2_with fail
            refine (sources_is HQ.out HRr.out rfl (by omega) HFT.out).mono ?_
            rintro e z ⟨rfl, hb⟩
            have HRz : Hid (z.heap[b]? = _) := heap_keep HRc.out hb
            have HBz : Hid (Below w.heap.size w z) := below_call HBc.out hb
            have HOz : Hid (OwnR z (b + 1) _ (putR S (nm, tx))) := HOc.out.call hb
            clear hb
            go_wp2_with fail
            refine (mustBe_yes _).mono ?_
            rintro e z2 ⟨rfl, hz⟩
            have hz2 := hz.symm
            clear hz
            subst hz2
            have f0 := row40 HRz.out
            have f1 : z.frozen? ⟨b, 0, none⟩ = false := frozen_of_row _ _ _ _ _ HRz.out
            go_wp2
            go_end0
            exact ⟨But.setB (But.of HBz.out) (p := ⟨b, 0, none⟩) rfl _, .inl ⟨_, by unfold putO; rw [if_pos HQ.out], rfl, ⟨_, heap_set HRz.out 0 _, own_set HOz.out (by omega)⟩⟩⟩
end Go.Proofs.YtnhehdobpibgkaaGreatDoor
