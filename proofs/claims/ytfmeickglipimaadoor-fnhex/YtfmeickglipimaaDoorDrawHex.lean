/- The draws of hex texts. -/
import Derived.Test.YtfmeickglipimaaDoorRows
import Derived.WalkKit
import Derived.WalkSpells
import Derived.WalkLawsBesides
import Derived.Outline
import Derived.RegionTactic
import Derived.BigRegion
import Derived.Deep.QuietTactic
import Derived.BigQuiet
import Derived.Test.YtfmeickglipimaaDoorBase
import Derived.Test.YtfmeickglipimaaDoorRes2
import Derived.Test.YtfmeickglipimaaDoorRow
import Derived.Test.YtfmeickglipimaaDoorOwn
import Derived.Test.YtfmeickglipimaaDoorOwnT
import Derived.Test.YtfmeickglipimaaDoorDraw
import Derived.Test.YtfmeickglipimaaDoorDrI0
import Derived.Test.YtfmeickglipimaaDoorHexS
import Derived.Test.YtfmeickglipimaaDoorHexRP
namespace Go.Proofs.YtfmeickglipimaaDoor
open Go.RowKit
set_option linter.unusedVariables false

theorem heap_keep_g {w w' : World} {g b : Nat} {o : Obj} (h : w.heap[b]? = some o) (hG : w.grownBy w' (some g)) (hne : b ≠ g) : w'.heap[b]? = some o := (hG.block b (heap_lt h) (by simpa using hne)).trans h
theorem own_ne' {z : World} {B g : Nat} {v : Value} {R : List Int} (h : OwnI z B v R) (hg : g < B) : v.ownBlock = none ∨ v.ownBlock ≠ some g := by
  cases hv : v.ownBlock with
  | none => exact Or.inl rfl
  | some k => exact Or.inr (by have := (h.lt k hv).1; simp; omega)
theorem DrI.grow {w0 w w' : World} {g : Nat} {a : Option Addr} {len cap : Nat} {row : Option Nat} (h : DrI w0 w g a len cap) (hG : w.grownBy w' row) (hr : ∀ j, row = some j → w0.heap.size ≤ j) : DrI w0 w' g a len cap :=
  ⟨h.d.kept hG (fun e => by have := hr g e; have := h.d0.lt; omega) (fun hl x hx e => by have h1 := h.d0.argLt hl hx; have h2 := hr _ e.symm; omega), h.d0, grownBy_more h.gr hG hr⟩
theorem DrI.below0 {w x1 z : World} {a : Option Addr} {len cap : Nat} (h : DrI x1 z w.heap.size a len cap) (hb : Below w.heap.size w x1) : Below w.heap.size w z :=
  ⟨h.gr.os.trans hb.os, h.gr.tape.trans hb.tape, h.gr.output.trans hb.output, Nat.le_trans hb.size h.gr.size, fun k hk => (h.gr.block k (by have := hb.size; omega) (by simp; omega)).trans (hb.block k hk)⟩
set_option maxRecDepth 100000 in
set_option maxHeartbeats 1600000 in
theorem drawHexText_any (a : Option Addr) (len cap : Nat) (w : World) (h : Arg w a len cap) : Calls Tryd.prog 5 #[.slice a len cap] w fun e w' => (∃ b L v, e = .returned (.tuple #[.int .i64 b, v]) ∧ OwnI w' w.heap.size v L ∧ L.length ≤ 20 ∧ -2 ≤ b ∧ b ≤ 65536) ∧ Below w.heap.size w w' := by
  obtain ⟨i0, hi, hz0, hz1, hz2⟩ := info_parts infoI
  go_enter Tryd.func5, Tryd.ntmps5
  go_wp2_with fail
  refine (source_any a len cap _ h).mono ?_
  rintro e x1 ⟨rfl, hD, hb⟩
  have HB1 : Hid (Below w.heap.size w x1) := hb
  have HD1 : Hid (Dr x1 w.heap.size a len cap) := hD
  have hx1 := hD.lt
  clear hD hb
  go_wp2_with fail
  refine (n_any w.heap.size a len cap 20 _ (HD1.out.alloc _) (by omega) (by omega)).mono ?_
  rintro e x2 ⟨k0, rfl, hk0, hk1, hD, hG⟩
  have HD2 : Hid (DrI x1 x2 w.heap.size a len cap) := ((DrI.start HD1.out).alloc _).call hD hG
  have HG2 : Hid (World.grownBy _ x2 _) := hG
  clear hD hG
  go_wp2
  go_loopw [5, 6] (fun v kv z => ∃ (k : Int) (R : List Int), kv = .int .i64 k ∧ k ≤ 19 ∧ (R.length : Int) + (if 0 < k then k else 0) ≤ 19 ∧ R.length ≤ 19 ∧ Hid (OwnI z x1.heap.size v R) ∧ Hid (DrI x1 z w.heap.size a len cap)) (fun _ kv _ => (intOf kv).toNat)
  case atStart => exact ⟨k0, [], rfl, by omega, by simp; split <;> omega, by simp, OwnI.mk (by have := HG2.out.size; omega) (heap_keep_g (heap_alloc_new x1 _) HG2.out (by omega)) (by simp) (by simp [maxLen]) rfl (fun i hi => by simp at hi), HD2.out⟩
  case round =>
    obtain ⟨k, R, rfl, hk19, hR, hR19, HO, HD⟩ := hrel
    have hsz := HD.out.gr.size
    by_cases hlt : 0 < k
    · have hR2 : R.length + 1 ≤ 19 := by rw [if_pos hlt] at hR; omega
      have hR3 : ((R.length + 1 : Nat) : Int) + (if 0 < k - 1 then k - 1 else 0) ≤ 19 := by rw [if_pos hlt] at hR; split <;> omega
      clear hR
      go_wp2_with fail
      refine (n_any w.heap.size a len cap 65536 _ HD.out.d (by omega) (by omega)).mono ?_
      rintro e y ⟨n, rfl, hn0, hn1, hD, hG⟩
      have HOy : Hid (OwnI y x1.heap.size _ R) := World.ownsRow.kept HO.out hG (own_ne' HO.out hx1)
      have HDy : Hid (DrI x1 y w.heap.size a len cap) := HD.out.call hD hG
      have hszy := HDy.out.gr.size
      clear hD hG
      go_wp2_with (at_builtin; refine wpList_append_own _ rfl (.tmp 17) (.tmp 20) 23 rfl x1.heap.size 2 i0 (.int .i64 0) 1 8 Tryd.underlying23 hi hz0 hz1 hz2 rfl (by decide) _ R.length (cellsI R) rfl (HOy.out.alloc _) ⟨y.heap.size, 0, none⟩ 1 1 [.int .i64 n] rfl rfl (cell_one_new _ _ _) (one_cellI _) (by unfold maxLen; omega) (by omega) (by simp; omega) ?_; intro v2 w2 hown2 hgrow2 _)
      have HO2 : Hid (OwnI w2 x1.heap.size v2 (R ++ [n])) := OwnI.moreL (M := [n]) hown2
      have HD2 : Hid (DrI x1 w2 w.heap.size a len cap) := (HDy.out.alloc _).grow hgrow2 (fun q hq => (HOy.out.lt q hq).1)
      clear hown2 hgrow2
      go_roundw
      case rel => exact ⟨k - 1, R ++ [n], by go_num, by omega, by simpa using hR3, by simp; omega, HO2.out, HD2.out⟩
      case measure => simp [intOf]; omega
    · clear hR
      go_wp2_with fail
      refine (one_any w.heap.size a len cap 20 _ HD.out.d (by omega) (by omega)).mono ?_
      rintro e y ⟨bo, rfl, hD, hG⟩
      have HOy : Hid (OwnI y x1.heap.size _ R) := World.ownsRow.kept HO.out hG (own_ne' HO.out hx1)
      have HDy : Hid (DrI x1 y w.heap.size a len cap) := HD.out.call hD hG
      have hszy := HDy.out.gr.size
      clear hD hG
      have hbb := HB1.out.size
      cases bo
      · go_wp2_with fail
        have HOz : Hid (OwnI y x1.heap.size _ R) := HOy.out
        have HDz : Hid (DrI x1 y w.heap.size a len cap) := HDy.out
        refine (n_any w.heap.size a len cap 32768 _ HDz.out.d (by omega) (by omega)).mono ?_
        rintro e y3 ⟨m, rfl, hm0, hm1, hD, hG⟩
        have HO3 : Hid (OwnI y3 x1.heap.size _ R) := World.ownsRow.kept HOz.out hG (own_ne' HOz.out hx1)
        have HD3 : Hid (DrI x1 y3 w.heap.size a len cap) := HDz.out.call hD hG
        clear hD hG
        go_wp2_with fail
        refine (one_any w.heap.size a len cap 12 _ HD3.out.d (by omega) (by omega)).mono ?_
        rintro e y4 ⟨b2, rfl, hD, hG⟩
        have HO4 : Hid (OwnI y4 x1.heap.size _ R) := World.ownsRow.kept HO3.out hG (own_ne' HO3.out hx1)
        have HD4 : Hid (DrI x1 y4 w.heap.size a len cap) := HD3.out.call hD hG
        clear hD hG
        cases b2
        · go_wp2
          go_ret2
          exact ⟨⟨_, R, _, rfl, HO4.out.low (by omega), by first | omega | (simp; omega), by omega, by omega⟩, HD4.out.below0 HB1.out⟩
        · go_wp2_with fail
          refine (n_any w.heap.size a len cap 4 _ (HD4.out.d.alloc _) (by omega) (by omega)).mono ?_
          rintro e y5 ⟨n5, rfl, hn0, hn1, hD, hG⟩
          obtain ⟨V5, rfl⟩ := Int.eq_ofNat_of_zero_le hn0
          have hV5 : V5 < 4 := by omega
          obtain ⟨q5, hq5, hqc5⟩ := tab_cell (w := y4) (t := 2) [-2, 1, 65534, 65536] V5 hV5 y5 hG HD4.out.d.lt
          have HO5 : Hid (OwnI y5 x1.heap.size _ R) := World.ownsRow.kept (HO4.out.alloc _) hG (own_ne' HO4.out hx1)
          have HD5 : Hid (DrI x1 y5 w.heap.size a len cap) := (HD4.out.alloc _).call hD hG
          have hq5b : -2 ≤ q5 ∧ q5 ≤ 65536 := by simp at hq5; omega
          have HQ5 : Hid (_ ∧ _) := hq5b
          clear hD hG hq5 hq5b hn1
          go_wp2
          go_ret2
          exact ⟨⟨_, R, _, rfl, HO5.out.low (by omega), by first | omega | (simp; omega), HQ5.out.1, HQ5.out.2⟩, HD5.out.below0 HB1.out⟩
      · go_wp2_with fail
        refine (n_any w.heap.size a len cap 2 _ (HDy.out.d.alloc _) (by omega) (by omega)).mono ?_
        rintro e y2 ⟨n, rfl, hn0, hn1, hD, hG⟩
        obtain ⟨V, rfl⟩ := Int.eq_ofNat_of_zero_le hn0
        have hV : V < 2 := by omega
        obtain ⟨q, hq, hqc⟩ := tab_cell (w := y) (t := 2) [-1, 65536] V hV y2 hG HDy.out.d.lt
        have HO2 : Hid (OwnI y2 x1.heap.size _ R) := World.ownsRow.kept (HOy.out.alloc _) hG (own_ne' HOy.out hx1)
        have HD22 : Hid (DrI x1 y2 w.heap.size a len cap) := (HDy.out.alloc _).call hD hG
        have hszy2 := HD22.out.gr.size
        have hVi : (V : Int) < 2 := by omega
        clear hD hG hn1 hq
        go_wp2_with (at_builtin; refine wpList_append_own _ rfl (.tmp 24) (.tmp 30) 23 rfl x1.heap.size 2 i0 (.int .i64 0) 1 8 Tryd.underlying23 hi hz0 hz1 hz2 rfl (by decide) _ R.length (cellsI R) rfl (HO2.out.alloc _) ⟨y2.heap.size, 0, none⟩ 1 1 [.int .i64 q] rfl rfl (cell_one_new _ _ _) (one_cellI _) (by unfold maxLen; omega) (by omega) (by simp; omega) ?_; intro v2 w2 hown2 hgrow2 _)
        have HOz : Hid (OwnI w2 x1.heap.size v2 (R ++ [q])) := OwnI.moreL (M := [q]) hown2
        have HDz : Hid (DrI x1 w2 w.heap.size a len cap) := (HD22.out.alloc _).grow hgrow2 (fun j hj => (HO2.out.lt j hj).1)
        clear hown2 hgrow2 hqc
        go_wp2_with fail
        refine (n_any w.heap.size a len cap 32768 _ HDz.out.d (by omega) (by omega)).mono ?_
        rintro e y3 ⟨m, rfl, hm0, hm1, hD, hG⟩
        have HO3 : Hid (OwnI y3 x1.heap.size _ (R ++ [q])) := World.ownsRow.kept HOz.out hG (own_ne' HOz.out hx1)
        have HD3 : Hid (DrI x1 y3 w.heap.size a len cap) := HDz.out.call hD hG
        clear hD hG
        go_wp2_with fail
        refine (one_any w.heap.size a len cap 12 _ HD3.out.d (by omega) (by omega)).mono ?_
        rintro e y4 ⟨b2, rfl, hD, hG⟩
        have HO4 : Hid (OwnI y4 x1.heap.size _ (R ++ [q])) := World.ownsRow.kept HO3.out hG (own_ne' HO3.out hx1)
        have HD4 : Hid (DrI x1 y4 w.heap.size a len cap) := HD3.out.call hD hG
        clear hD hG
        cases b2
        · go_wp2
          go_ret2
          exact ⟨⟨_, (R ++ [q]), _, rfl, HO4.out.low (by omega), by first | omega | (simp; omega), by omega, by omega⟩, HD4.out.below0 HB1.out⟩
        · go_wp2_with fail
          refine (n_any w.heap.size a len cap 4 _ (HD4.out.d.alloc _) (by omega) (by omega)).mono ?_
          rintro e y5 ⟨n5, rfl, hn0, hn1, hD, hG⟩
          obtain ⟨V5, rfl⟩ := Int.eq_ofNat_of_zero_le hn0
          have hV5 : V5 < 4 := by omega
          obtain ⟨q5, hq5, hqc5⟩ := tab_cell (w := y4) (t := 2) [-2, 1, 65534, 65536] V5 hV5 y5 hG HD4.out.d.lt
          have HO5 : Hid (OwnI y5 x1.heap.size _ (R ++ [q])) := World.ownsRow.kept (HO4.out.alloc _) hG (own_ne' HO4.out hx1)
          have HD5 : Hid (DrI x1 y5 w.heap.size a len cap) := (HD4.out.alloc _).call hD hG
          have hq5b : -2 ≤ q5 ∧ q5 ≤ 65536 := by simp at hq5; omega
          have HQ5 : Hid (_ ∧ _) := hq5b
          clear hD hG hq5 hq5b hn1
          go_wp2
          go_ret2
          exact ⟨⟨_, (R ++ [q]), _, rfl, HO5.out.low (by omega), by first | omega | (simp; omega), HQ5.out.1, HQ5.out.2⟩, HD5.out.below0 HB1.out⟩
end Go.Proofs.YtfmeickglipimaaDoor
