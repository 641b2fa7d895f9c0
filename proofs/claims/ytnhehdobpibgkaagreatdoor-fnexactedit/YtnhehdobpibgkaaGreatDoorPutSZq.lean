/- A source is put among sources, by the specification. -/
import Derived.Test.YtnhehdobpibgkaaGreatDoorRows
import Derived.WalkKit
import Derived.WalkSpells
import Derived.WalkLawsBesides
import Derived.Outline
import Derived.RegionTactic
import Derived.BigRegion
import Derived.Deep.QuietTactic
import Derived.BigQuiet
import Derived.Test.YtnhehdobpibgkaaGreatDoorBun0
import Derived.Test.YtnhehdobpibgkaaGreatDoorBun1
import Derived.Test.YtnhehdobpibgkaaGreatDoorBun3
import Derived.Test.YtnhehdobpibgkaaGreatDoorBun24
namespace Go.Proofs.YtnhehdobpibgkaaGreatDoor
open Go.RowKit
set_option linter.unusedVariables false

theorem put_yes {L : List Src} {s : Src} {k : Nat} (hp : plcL L s.1 = k) (hk : k < L.length) (e : L[k].1 = s.1) : putR L s = L.take k ++ (s :: L.drop (k + 1)) := by
  subst hp
  unfold putR
  rw [has_yes hk e, if_pos rfl]
theorem put_no {L : List Src} {s : Src} {k : Nat} (hp : plcL L s.1 = k) (hk : k < L.length) (e : ¬ L[k].1 = s.1) : putR L s = L.take k ++ (s :: L.drop k) := by
  subst hp
  unfold putR
  rw [has_no hk e, if_neg (by simp)]; rfl
theorem put_end {L : List Src} {s : Src} (hp : plcL L s.1 = L.length) : putR L s = L.take L.length ++ (s :: L.drop L.length) := by
  unfold putR
  rw [has_end (by omega), hp, if_neg (by simp)]; rfl
theorem grown_keep {W W' : World} {v : Value} {b : Nat} {o : Obj} (hg : W.grownBy W' v.ownBlock) (h : W.heap[b]? = some o) (hne : v.ownBlock ≠ some b) : W'.heap[b]? = some o :=
  (hg.block b (heap_lt h) (fun e => hne e.symm)).trans h
theorem own_ne {w : World} {B : Nat} {v : Value} {L : List Src} {b : Nat} (h : OwnR w B v L) (hb : b < B) : v.ownBlock ≠ some b := fun e => by have := (h.blk b e).1; omega
set_option maxRecDepth 100000 in
set_option maxHeartbeats 3200000 in
theorem l08Put_any (a : Option Addr) (L : List Src) (cap : Nat) (nm tx : ByteArray) (w : World) (hR : RowIs 2 srcC w a L) (hl : L.length ≤ 20) (hcap : L.length ≤ cap) (hm : cap ≤ maxLen) (hn : a = none → cap = 0) : Calls Tryz.prog 62 #[.slice a L.length cap, .agg #[.string nm, .string tx]] w fun e w' => (∃ v, e = .returned v ∧ OwnR w' w.heap.size v (putR L (nm, tx))) ∧ Below w.heap.size w w' := by
  have HR : Hid (RowIs 2 srcC w a L) := hR
  have HN : Hid (a = none → cap = 0) := hn
  have HM : Hid (cap ≤ maxLen) := hm
  clear hR hn hm
  go_enter Tryz.func62, Tryz.ntmps62
  go_wp2
  go_loopw [5] (fun i wr => ∃ k : Nat, k ≤ L.length ∧ i = .int .i64 k ∧ Hid (∀ t (h : t < k) (h2 : t < L.length), upB L[t].1 nm = true) ∧ Hid (wr.heap[w.heap.size]? = some (.cells #[.string nm, .string tx] 74 (0, 0))) ∧ Hid (Below w.heap.size w wr)) (fun i _ => L.length - (intOf i).toNat)
  case atStart => exact ⟨0, by omega, rfl, fun t h => by omega, heap_alloc_new _ _, below_new _ _⟩
  case round =>
    obtain ⟨k, hk, rfl, HF, HC, HB⟩ := hrel
    have HC0 := HC.out
    obtain ⟨d0, d1, d2, d3⟩ := two_cells HC0
    have hsz : w.heap.size < wr.heap.size := heap_lt HC0
    clear HC0
    by_cases hlt : k < L.length
    · obtain ⟨x, rfl, hx, hE⟩ := (HR.out.below HB.out).elem k hlt
      obtain ⟨c0, c1⟩ := ElemAt.two hE
      have hi0 : (0 : Int) ≤ (k : Int) := by omega
      have hi1 : (k : Int) < (L.length : Int) := by omega
      have hg : decide ((k : Int) < (L.length : Int)) = true := decide_eq_true hi1
      clear hE c1
      cases hu : upB L[k].1 nm
      · have hu2 : Op.bytesLess L[k].1.toList nm.toList = false := hu
        have HPL : Hid (plcL L nm = k) := plc_is L nm k (by omega) (fun t h => HF.out t h (by omega)) (fun _ => hu)
        by_cases hnm : L[k].1 = nm
        · have HNM : Hid (L[k].1 = nm) := hnm
          clear hnm
          go_wp2_with fail
          go_quiet (fail)
          obtain ⟨v1, y1, ap1, ho1, hg1⟩ := append_srcs (w := (wr.drewN nq).alloc (.cells #[] 74)) (B := w.heap.size + 1) (L := []) (M := L.take k) (a := (some x)) (n := k) (cap := cap) 22 Tryz.underlying22 (own_empty (N := wr.heap.size) rfl (by omega)) ((((HR.out.below HB.out).take _).below (below_drewS (Below.refl _ _) _)).alloc _) (fun h => HN.out h) (by rw [List.length_take]; omega) (by simp) (by rw [List.length_take]; omega) (by simp; omega) 22
          have HAP1 : Hid (_ = _) := ap1
          have HO1 : Hid (OwnR y1 (w.heap.size + 1) v1 (L.take k)) := by have h := ho1; rw [List.nil_append] at h; exact h
          have HB1 : Hid (Below w.heap.size w y1) := ((below_drewS HB.out nq).alloc (by show _ ≤ wr.heap.size; omega) _).grown hg1 (by simp; omega) (fun q hq => by have : wr.heap.size = q := Option.some.inj hq; omega)
          have hc1 := grown_keep hg1 (heap_more (show (wr.drewN nq).heap[w.heap.size]? = _ from HC.out) _) (fun h => by have : wr.heap.size = w.heap.size := Option.some.inj h; omega)
          have HC1 : Hid (_ = _) := hc1
          obtain ⟨e0, e1, e2, e3⟩ := two_cells hc1
          have hsz1 : w.heap.size < y1.heap.size := heap_lt hc1
          obtain ⟨v2, y2, ap2, ho2, hg2⟩ := append_srcs (w := y1.alloc (.cells #[.string nm, .string tx] 74)) (B := w.heap.size + 1) (L := L.take k) (M := [(nm, tx)]) (a := some ⟨y1.heap.size, 0, none⟩) (n := 1) (cap := 1) 22 Tryz.underlying22 (HO1.out.alloc _) (new_src rfl (nm, tx)) (fun h => by cases h) rfl (by rw [List.length_take]; omega) (by simp) (by simp; omega) 22
          have HAP2 : Hid (_ = _) := ap2
          have HO2 : Hid (OwnR y2 (w.heap.size + 1) v2 (L.take k ++ [(nm, tx)])) := ho2
          have HB2 : Hid (Below w.heap.size w y2) := (HB1.out.alloc (by omega) _).grown hg2 (by simp; omega) (fun q hq => by have := (HO1.out.blk q hq).1; omega)
          have hc2 := grown_keep hg2 (heap_more hc1 _) (own_ne HO1.out (by omega))
          have HC2 : Hid (_ = _) := hc2
          obtain ⟨p0, p1, p2, p3⟩ := two_cells hc2
          have hsz2 : w.heap.size < y2.heap.size := heap_lt hc2
          have q0 : y2.cell? (x.add (k * 2)) = some (.string L[k].1) := by
            obtain ⟨x2, hx2, _, hE2⟩ := (HR.out.below HB2.out).elem k hlt
            cases hx2
            exact (ElemAt.two hE2).1
          clear ap1 ho1 hg1 hc1 ap2 ho2 hg2 hc2 d0 d1 d2 d3 c0
          go_wp2_with (first | (at_builtin; refine wpList_append_run rfl (.tmp 23) (.tmp 26) 22 rfl _ _ _ _ rfl rfl HAP1.out ?_) | (at_builtin; refine wpList_append_run rfl (.tmp 28) (.tmp 30) 22 rfl _ _ _ _ rfl rfl HAP2.out ?_))
          rw [HNM.out] at q0
          have hcmp : (nm.toList == nm.toList) = true := by simp
          go_quiet (fail)
          obtain ⟨yt, hcut, hrt⟩ := cut_tail (k := (k + 1)) (L := L) (x := x) (cap := cap) 22 Tryz.underlying22 (HR.out.below HB2.out) (by omega) hcap HM.out ((k : Int) + 1) (by omega)
          obtain ⟨v3, y3, ap3, ho3, hg3⟩ := append_srcs (w := y2.drewN nq) (B := w.heap.size + 1) (L := L.take k ++ [(nm, tx)]) (M := L.drop (k + 1)) (a := some yt) (n := L.length - (k + 1)) (cap := cap - (k + 1)) 22 Tryz.underlying22 (HO2.out.call (below_drewS (Below.refl _ _) _)) (hrt.below (below_drewS (Below.refl _ _) _)) (fun h => by cases h) (by rw [List.length_drop]) (by simp; omega) (by rw [List.length_drop]; omega) (by show _ ≤ y2.heap.size; omega) 22
          have HAP3 : Hid (_ = _) := ap3
          have HO3 : Hid (OwnR y3 (w.heap.size + 1) v3 ((L.take k ++ [(nm, tx)]) ++ L.drop (k + 1))) := ho3
          have HB3 : Hid (Below w.heap.size w y3) := (below_drewS HB2.out _).grown hg3 (by show _ ≤ y2.heap.size; omega) (fun q hq => by have := (HO2.out.blk q hq).1; omega)
          clear ap3 ho3 hg3 hrt
          go_wp2_with (at_builtin; refine wpList_append_run rfl (.tmp 48) (.tmp 51) 22 rfl _ _ _ _ rfl rfl HAP3.out ?_)
          go_ret
          refine ⟨⟨_, rfl, ?_⟩, HB3.out⟩
          rw [put_yes HPL.out hlt HNM.out]
          have h := HO3.out.low (show w.heap.size ≤ w.heap.size + 1 by omega)
          rw [List.append_assoc] at h
          exact h
        · have HNE : Hid (¬ L[k].1 = nm) := hnm
          clear hnm
          go_wp2_with fail
          go_quiet (fail)
          obtain ⟨v1, y1, ap1, ho1, hg1⟩ := append_srcs (w := (wr.drewN nq).alloc (.cells #[] 74)) (B := w.heap.size + 1) (L := []) (M := L.take k) (a := (some x)) (n := k) (cap := cap) 22 Tryz.underlying22 (own_empty (N := wr.heap.size) rfl (by omega)) ((((HR.out.below HB.out).take _).below (below_drewS (Below.refl _ _) _)).alloc _) (fun h => HN.out h) (by rw [List.length_take]; omega) (by simp) (by rw [List.length_take]; omega) (by simp; omega) 22
          have HAP1 : Hid (_ = _) := ap1
          have HO1 : Hid (OwnR y1 (w.heap.size + 1) v1 (L.take k)) := by have h := ho1; rw [List.nil_append] at h; exact h
          have HB1 : Hid (Below w.heap.size w y1) := ((below_drewS HB.out nq).alloc (by show _ ≤ wr.heap.size; omega) _).grown hg1 (by simp; omega) (fun q hq => by have : wr.heap.size = q := Option.some.inj hq; omega)
          have hc1 := grown_keep hg1 (heap_more (show (wr.drewN nq).heap[w.heap.size]? = _ from HC.out) _) (fun h => by have : wr.heap.size = w.heap.size := Option.some.inj h; omega)
          have HC1 : Hid (_ = _) := hc1
          obtain ⟨e0, e1, e2, e3⟩ := two_cells hc1
          have hsz1 : w.heap.size < y1.heap.size := heap_lt hc1
          obtain ⟨v2, y2, ap2, ho2, hg2⟩ := append_srcs (w := y1.alloc (.cells #[.string nm, .string tx] 74)) (B := w.heap.size + 1) (L := L.take k) (M := [(nm, tx)]) (a := some ⟨y1.heap.size, 0, none⟩) (n := 1) (cap := 1) 22 Tryz.underlying22 (HO1.out.alloc _) (new_src rfl (nm, tx)) (fun h => by cases h) rfl (by rw [List.length_take]; omega) (by simp) (by simp; omega) 22
          have HAP2 : Hid (_ = _) := ap2
          have HO2 : Hid (OwnR y2 (w.heap.size + 1) v2 (L.take k ++ [(nm, tx)])) := ho2
          have HB2 : Hid (Below w.heap.size w y2) := (HB1.out.alloc (by omega) _).grown hg2 (by simp; omega) (fun q hq => by have := (HO1.out.blk q hq).1; omega)
          have hc2 := grown_keep hg2 (heap_more hc1 _) (own_ne HO1.out (by omega))
          have HC2 : Hid (_ = _) := hc2
          obtain ⟨p0, p1, p2, p3⟩ := two_cells hc2
          have hsz2 : w.heap.size < y2.heap.size := heap_lt hc2
          have q0 : y2.cell? (x.add (k * 2)) = some (.string L[k].1) := by
            obtain ⟨x2, hx2, _, hE2⟩ := (HR.out.below HB2.out).elem k hlt
            cases hx2
            exact (ElemAt.two hE2).1
          clear ap1 ho1 hg1 hc1 ap2 ho2 hg2 hc2 d0 d1 d2 d3 c0
          go_wp2_with (first | (at_builtin; refine wpList_append_run rfl (.tmp 23) (.tmp 26) 22 rfl _ _ _ _ rfl rfl HAP1.out ?_) | (at_builtin; refine wpList_append_run rfl (.tmp 28) (.tmp 30) 22 rfl _ _ _ _ rfl rfl HAP2.out ?_))
          have hcmp := textS_ne HNE.out
          generalize hgl : L[k].1 = lk at q0 hcmp
          have HGL : Hid (_ = _) := hgl
          clear hgl
          go_quiet (fail)
          obtain ⟨yt, hcut, hrt⟩ := cut_tail (k := k) (L := L) (x := x) (cap := cap) 22 Tryz.underlying22 (HR.out.below HB2.out) (by omega) hcap HM.out ((k : Nat) : Int) (by omega)
          obtain ⟨v3, y3, ap3, ho3, hg3⟩ := append_srcs (w := y2.drewN nq) (B := w.heap.size + 1) (L := L.take k ++ [(nm, tx)]) (M := L.drop k) (a := some yt) (n := L.length - k) (cap := cap - k) 22 Tryz.underlying22 (HO2.out.call (below_drewS (Below.refl _ _) _)) (hrt.below (below_drewS (Below.refl _ _) _)) (fun h => by cases h) (by rw [List.length_drop]) (by simp; omega) (by rw [List.length_drop]; omega) (by show _ ≤ y2.heap.size; omega) 22
          have HAP3 : Hid (_ = _) := ap3
          have HO3 : Hid (OwnR y3 (w.heap.size + 1) v3 ((L.take k ++ [(nm, tx)]) ++ L.drop k)) := ho3
          have HB3 : Hid (Below w.heap.size w y3) := (below_drewS HB2.out _).grown hg3 (by show _ ≤ y2.heap.size; omega) (fun q hq => by have := (HO2.out.blk q hq).1; omega)
          clear ap3 ho3 hg3 hrt
          go_wp2_with (at_builtin; refine wpList_append_run rfl (.tmp 48) (.tmp 51) 22 rfl _ _ _ _ rfl rfl HAP3.out ?_)
          go_ret
          refine ⟨⟨_, rfl, ?_⟩, HB3.out⟩
          rw [put_no HPL.out hlt HNE.out]
          have h := HO3.out.low (show w.heap.size ≤ w.heap.size + 1 by omega)
          rw [List.append_assoc] at h
          exact h
      · have hu2 : Op.bytesLess L[k].1.toList nm.toList = true := hu
        have HF2 : Hid (∀ t (h : t < k + 1) (h2 : t < L.length), upB L[t].1 nm = true) := fun t h h2 => by
          by_cases e2 : t = k
          · subst e2; exact hu
          · exact HF.out t (by omega) h2
        clear hu
        go_wp2_with fail
        go_quiet (fail)
        go_wp2
        go_roundw
        case rel => exact ⟨k + 1, by omega, by go_num, HF2.out, by exact HC.out, below_drewS HB.out _⟩
        case measure => simp [intOf]; omega
    · obtain rfl : k = L.length := by omega
      have hg : decide ((L.length : Int) < (L.length : Int)) = false := decide_eq_false (by omega)
      have HPL : Hid (plcL L nm = L.length) := plc_is L nm L.length (by omega) (fun t h => HF.out t h (by omega)) (fun h => by omega)
      cases a with
      | none =>
        obtain rfl : L = [] := by
          cases L with
          | nil => rfl
          | cons s L => obtain ⟨y, hy, _⟩ := HR.out (by simp); cases hy
        obtain rfl := HN.out rfl
        go_wp2_with fail
        go_quiet (fail)
        obtain ⟨v1, y1, ap1, ho1, hg1⟩ := append_srcs (w := (wr.drewN nq).alloc (.cells #[] 74)) (B := w.heap.size + 1) (L := []) (M := ([] : List Src).take 0) (a := none) (n := 0) (cap := 0) 22 Tryz.underlying22 (own_empty (N := wr.heap.size) rfl (by omega)) ((((HR.out.below HB.out).take _).below (below_drewS (Below.refl _ _) _)).alloc _) (fun h => rfl) (by simp) (by simp) (by simp) (by simp; omega) 22
        have HAP1 : Hid (_ = _) := ap1
        have HO1 : Hid (OwnR y1 (w.heap.size + 1) v1 (([] : List Src).take 0)) := by have h := ho1; rw [List.nil_append] at h; exact h
        have HB1 : Hid (Below w.heap.size w y1) := ((below_drewS HB.out nq).alloc (by show _ ≤ wr.heap.size; omega) _).grown hg1 (by simp; omega) (fun q hq => by have : wr.heap.size = q := Option.some.inj hq; omega)
        have hc1 := grown_keep hg1 (heap_more (show (wr.drewN nq).heap[w.heap.size]? = _ from HC.out) _) (fun h => by have : wr.heap.size = w.heap.size := Option.some.inj h; omega)
        have HC1 : Hid (_ = _) := hc1
        obtain ⟨e0, e1, e2, e3⟩ := two_cells hc1
        have hsz1 : w.heap.size < y1.heap.size := heap_lt hc1
        obtain ⟨v2, y2, ap2, ho2, hg2⟩ := append_srcs (w := y1.alloc (.cells #[.string nm, .string tx] 74)) (B := w.heap.size + 1) (L := ([] : List Src).take 0) (M := [(nm, tx)]) (a := some ⟨y1.heap.size, 0, none⟩) (n := 1) (cap := 1) 22 Tryz.underlying22 (HO1.out.alloc _) (new_src rfl (nm, tx)) (fun h => by cases h) rfl (by simp) (by simp) (by simp; omega) 22
        have HAP2 : Hid (_ = _) := ap2
        have HO2 : Hid (OwnR y2 (w.heap.size + 1) v2 (([] : List Src).take 0 ++ [(nm, tx)])) := ho2
        have HB2 : Hid (Below w.heap.size w y2) := (HB1.out.alloc (by omega) _).grown hg2 (by simp; omega) (fun q hq => by have := (HO1.out.blk q hq).1; omega)
        have hc2 := grown_keep hg2 (heap_more hc1 _) (own_ne HO1.out (by omega))
        have HC2 : Hid (_ = _) := hc2
        obtain ⟨p0, p1, p2, p3⟩ := two_cells hc2
        have hsz2 : w.heap.size < y2.heap.size := heap_lt hc2
        clear ap1 ho1 hg1 hc1 ap2 ho2 hg2 hc2 d0 d1 d2 d3 
        go_wp2_with (first | (at_builtin; refine wpList_append_run rfl (.tmp 23) (.tmp 26) 22 rfl _ _ _ _ rfl rfl HAP1.out ?_) | (at_builtin; refine wpList_append_run rfl (.tmp 28) (.tmp 30) 22 rfl _ _ _ _ rfl rfl HAP2.out ?_))
        go_quiet (fail)
        obtain ⟨v3, y3, ap3, ho3, hg3⟩ := append_srcs (w := y2.drewN nq) (B := w.heap.size + 1) (L := ([] : List Src).take 0 ++ [(nm, tx)]) (M := []) (a := none) (n := 0) (cap := 0) 22 Tryz.underlying22 (HO2.out.call (below_drewS (Below.refl _ _) _)) RowIs.nil (fun h => rfl) rfl (by simp) (by simp) (by show _ ≤ y2.heap.size; omega) 22
        have HAP3 : Hid (_ = _) := ap3
        have HO3 : Hid (OwnR y3 (w.heap.size + 1) v3 ((([] : List Src).take 0 ++ [(nm, tx)]) ++ [])) := ho3
        have HB3 : Hid (Below w.heap.size w y3) := (below_drewS HB2.out _).grown hg3 (by show _ ≤ y2.heap.size; omega) (fun q hq => by have := (HO2.out.blk q hq).1; omega)
        clear ap3 ho3 hg3 
        go_wp2_with (at_builtin; refine wpList_append_run rfl (.tmp 48) (.tmp 51) 22 rfl _ _ _ _ rfl rfl HAP3.out ?_)
        go_ret
        refine ⟨⟨_, rfl, ?_⟩, HB3.out⟩
        rw [put_end HPL.out]
        have h := HO3.out.low (show w.heap.size ≤ w.heap.size + 1 by omega)
        rw [List.append_assoc] at h
        exact h
      | some x =>
        go_wp2_with fail
        go_quiet (fail)
        obtain ⟨v1, y1, ap1, ho1, hg1⟩ := append_srcs (w := (wr.drewN nq).alloc (.cells #[] 74)) (B := w.heap.size + 1) (L := []) (M := L.take L.length) (a := (some x)) (n := L.length) (cap := cap) 22 Tryz.underlying22 (own_empty (N := wr.heap.size) rfl (by omega)) ((((HR.out.below HB.out).take _).below (below_drewS (Below.refl _ _) _)).alloc _) (fun h => HN.out h) (by rw [List.length_take]; omega) (by simp) (by rw [List.length_take]; omega) (by simp; omega) 22
        have HAP1 : Hid (_ = _) := ap1
        have HO1 : Hid (OwnR y1 (w.heap.size + 1) v1 (L.take L.length)) := by have h := ho1; rw [List.nil_append] at h; exact h
        have HB1 : Hid (Below w.heap.size w y1) := ((below_drewS HB.out nq).alloc (by show _ ≤ wr.heap.size; omega) _).grown hg1 (by simp; omega) (fun q hq => by have : wr.heap.size = q := Option.some.inj hq; omega)
        have hc1 := grown_keep hg1 (heap_more (show (wr.drewN nq).heap[w.heap.size]? = _ from HC.out) _) (fun h => by have : wr.heap.size = w.heap.size := Option.some.inj h; omega)
        have HC1 : Hid (_ = _) := hc1
        obtain ⟨e0, e1, e2, e3⟩ := two_cells hc1
        have hsz1 : w.heap.size < y1.heap.size := heap_lt hc1
        obtain ⟨v2, y2, ap2, ho2, hg2⟩ := append_srcs (w := y1.alloc (.cells #[.string nm, .string tx] 74)) (B := w.heap.size + 1) (L := L.take L.length) (M := [(nm, tx)]) (a := some ⟨y1.heap.size, 0, none⟩) (n := 1) (cap := 1) 22 Tryz.underlying22 (HO1.out.alloc _) (new_src rfl (nm, tx)) (fun h => by cases h) rfl (by rw [List.length_take]; omega) (by simp) (by simp; omega) 22
        have HAP2 : Hid (_ = _) := ap2
        have HO2 : Hid (OwnR y2 (w.heap.size + 1) v2 (L.take L.length ++ [(nm, tx)])) := ho2
        have HB2 : Hid (Below w.heap.size w y2) := (HB1.out.alloc (by omega) _).grown hg2 (by simp; omega) (fun q hq => by have := (HO1.out.blk q hq).1; omega)
        have hc2 := grown_keep hg2 (heap_more hc1 _) (own_ne HO1.out (by omega))
        have HC2 : Hid (_ = _) := hc2
        obtain ⟨p0, p1, p2, p3⟩ := two_cells hc2
        have hsz2 : w.heap.size < y2.heap.size := heap_lt hc2
        clear ap1 ho1 hg1 hc1 ap2 ho2 hg2 hc2 d0 d1 d2 d3 
        go_wp2_with (first | (at_builtin; refine wpList_append_run rfl (.tmp 23) (.tmp 26) 22 rfl _ _ _ _ rfl rfl HAP1.out ?_) | (at_builtin; refine wpList_append_run rfl (.tmp 28) (.tmp 30) 22 rfl _ _ _ _ rfl rfl HAP2.out ?_))
        go_quiet (fail)
        obtain ⟨yt, hcut, hrt⟩ := cut_tail (k := L.length) (L := L) (x := x) (cap := cap) 22 Tryz.underlying22 (HR.out.below HB2.out) (by omega) hcap HM.out ((L.length : Nat) : Int) (by omega)
        obtain ⟨v3, y3, ap3, ho3, hg3⟩ := append_srcs (w := y2.drewN nq) (B := w.heap.size + 1) (L := L.take L.length ++ [(nm, tx)]) (M := L.drop L.length) (a := some yt) (n := 0) (cap := cap - L.length) 22 Tryz.underlying22 (HO2.out.call (below_drewS (Below.refl _ _) _)) (hrt.below (below_drewS (Below.refl _ _) _)) (fun h => by cases h) (by simp) (by simp; omega) (by rw [List.length_drop]; omega) (by show _ ≤ y2.heap.size; omega) 22
        have HAP3 : Hid (_ = _) := ap3
        have HO3 : Hid (OwnR y3 (w.heap.size + 1) v3 ((L.take L.length ++ [(nm, tx)]) ++ L.drop L.length)) := ho3
        have HB3 : Hid (Below w.heap.size w y3) := (below_drewS HB2.out _).grown hg3 (by show _ ≤ y2.heap.size; omega) (fun q hq => by have := (HO2.out.blk q hq).1; omega)
        clear ap3 ho3 hg3 hrt
        go_wp2_with (at_builtin; refine wpList_append_run rfl (.tmp 48) (.tmp 51) 22 rfl _ _ _ _ rfl rfl HAP3.out ?_)
        go_ret
        refine ⟨⟨_, rfl, ?_⟩, HB3.out⟩
        rw [put_end HPL.out]
        have h := HO3.out.low (show w.heap.size ≤ w.heap.size + 1 by omega)
        rw [List.append_assoc] at h
        exact h
end Go.Proofs.YtnhehdobpibgkaaGreatDoor
