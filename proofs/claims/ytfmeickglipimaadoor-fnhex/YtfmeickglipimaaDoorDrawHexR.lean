/- The draw of a hex text that is read. -/
import Derived.Test.YtfmeickglipimaaDoorRows
import Derived.WalkKit
import Derived.WalkSpells
import Derived.WalkLawsBesides
import Derived.Test.YtfmeickglipimaaDoorBase
import Derived.Test.YtfmeickglipimaaDoorRes2
import Derived.Test.YtfmeickglipimaaDoorOwn
import Derived.Test.YtfmeickglipimaaDoorOwnT
import Derived.Test.YtfmeickglipimaaDoorDraw
import Derived.Test.YtfmeickglipimaaDoorDrI0
import Derived.Test.YtfmeickglipimaaDoorDrawHex
import Derived.Test.YtfmeickglipimaaDoorDrawSpoil
import Derived.Test.YtfmeickglipimaaDoorHexS
import Derived.Test.YtfmeickglipimaaDoorHexRP
namespace Go.Proofs.YtfmeickglipimaaDoor
open Go.RowKit
set_option linter.unusedVariables false

theorem hexT_size (b : Int) (L : List Int) : (hexT b L).size ≤ 2212 := by
  cases h : hexB b L
  · rw [hexT_no h]; show 0 ≤ _; omega
  · rw [hexT_yes h]; exact hexL_len (hexB_ok h).1
set_option maxRecDepth 100000 in
set_option maxHeartbeats 1600000 in
theorem drawHexRead_any (a : Option Addr) (len cap : Nat) (w : World) (h : Arg w a len cap) : Calls Tryd.prog 12 #[.slice a len cap] w fun e w' => (∃ u : ByteArray, e = .returned (.string u) ∧ u.size ≤ 3000) ∧ Below w.heap.size w w' := by
  obtain ⟨i0, hi, hz0, hz1, hz2⟩ := info_parts infoI
  go_enter Tryd.func12, Tryd.ntmps12
  go_wp2_with fail
  refine (source_any a len cap _ h).mono ?_
  rintro e x1 ⟨rfl, hD, hb⟩
  have HB1 : Hid (Below w.heap.size w x1) := hb
  have HD1 : Hid (Dr x1 w.heap.size a len cap) := hD
  have hx1 := hD.lt
  clear hD hb
  go_wp2_with fail
  refine (n_any w.heap.size a len cap 12 _ (HD1.out.alloc _) (by omega) (by omega)).mono ?_
  rintro e x2 ⟨k0, rfl, hk0, hk1, hD, hG⟩
  have HD2 : Hid (DrI x1 x2 w.heap.size a len cap) := ((DrI.start HD1.out).alloc _).call hD hG
  have HG2 : Hid (World.grownBy _ x2 _) := hG
  clear hD hG
  go_wp2
  go_loopw [4, 5] (fun v kv z => ∃ (k : Int) (R : List Int), kv = .int .i64 k ∧ k ≤ 19 ∧ (R.length : Int) + (if 0 < k then k else 0) ≤ 19 ∧ R.length ≤ 19 ∧ Hid (OwnI z x1.heap.size v R) ∧ Hid (DrI x1 z w.heap.size a len cap)) (fun _ kv _ => (intOf kv).toNat)
  case atStart => exact ⟨k0, [], rfl, by omega, by simp; split <;> omega, by simp, OwnI.mk (by have := HG2.out.size; omega) (heap_keep_g (heap_alloc_new x1 _) HG2.out (by omega)) (by simp) (by simp [maxLen]) rfl (fun i hi => by simp at hi), HD2.out⟩
  case round =>
    obtain ⟨k, R, rfl, hk19, hR, hR19, HO, HD⟩ := hrel
    have hsz := HD.out.gr.size
    by_cases hlt : 0 < k
    · have hR2 : R.length + 1 ≤ 19 := by rw [if_pos hlt] at hR; omega
      have hR3 : ((R.length + 1 : Nat) : Int) + (if 0 < k - 1 then k - 1 else 0) ≤ 19 := by rw [if_pos hlt] at hR; split <;> omega
      clear hR
      go_wp2_with fail
      refine (n_any w.heap.size a len cap 65536 _ HD.out.d (by omega) (by omega)).mono ?_
      rintro e y ⟨n, rfl, hn0, hn1, hD, hG⟩
      have HOy : Hid (OwnI y x1.heap.size _ R) := World.ownsRow.kept HO.out hG (own_ne' HO.out hx1)
      have HDy : Hid (DrI x1 y w.heap.size a len cap) := HD.out.call hD hG
      have hszy := HDy.out.gr.size
      clear hD hG
      go_wp2_with (at_builtin; refine wpList_append_own _ rfl (.tmp 16) (.tmp 19) 23 rfl x1.heap.size 2 i0 (.int .i64 0) 1 8 Tryd.underlying23 hi hz0 hz1 hz2 rfl (by decide) _ R.length (cellsI R) rfl (HOy.out.alloc _) ⟨y.heap.size, 0, none⟩ 1 1 [.int .i64 n] rfl rfl (cell_one_new _ _ _) (one_cellI _) (by unfold maxLen; omega) (by omega) (by simp; omega) ?_; intro v2 w2 hown2 hgrow2 _)
      have HO2 : Hid (OwnI w2 x1.heap.size v2 (R ++ [n])) := OwnI.moreL (M := [n]) hown2
      have HD2 : Hid (DrI x1 w2 w.heap.size a len cap) := (HDy.out.alloc _).grow hgrow2 (fun q hq => (HOy.out.lt q hq).1)
      clear hown2 hgrow2
      go_roundw
      case rel => exact ⟨k - 1, R ++ [n], by go_num, by omega, by simpa using hR3, by simp; omega, HO2.out, HD2.out⟩
      case measure => simp [intOf]; omega
    · clear hR
      go_wp2_with fail
      refine (n_any w.heap.size a len cap 30000 _ HD.out.d (by omega) (by omega)).mono ?_
      rintro e y ⟨m, rfl, hm0, hm1, hD, hG⟩
      have HOy : Hid (OwnI y x1.heap.size _ R) := World.ownsRow.kept HO.out hG (own_ne' HO.out hx1)
      have HDy : Hid (DrI x1 y w.heap.size a len cap) := HD.out.call hD hG
      clear hD hG
      obtain ⟨a2, cap2, rfl, hread, _, _⟩ := own_readI HOy.out
      have HRR : Hid (ReadI y a2 R) := hread
      have HTS : Hid ((hexT (2 * m) R).size ≤ 2212) := hexT_size _ _
      clear hread
      go_wp2_with fail
      refine (specHex_any (2 * m) a2 R cap2 _ HRR.out (by omega)).mono ?_
      rintro e y2 ⟨rfl, hb⟩
      have HD2 : Hid (DrI x1 y2 w.heap.size a len cap) := HDy.out.below hb
      clear hb
      generalize hexT (2 * m) R = t at *
      go_wp2_with fail
      refine (one_any w.heap.size a len cap 2 _ HD2.out.d (by omega) (by omega)).mono ?_
      rintro e y3 ⟨bo, rfl, hD, hG⟩
      have HD3 : Hid (DrI x1 y3 w.heap.size a len cap) := HD2.out.call hD hG
      clear hD hG
      cases bo
      · go_wp2
        go_ret
        exact ⟨⟨t, rfl, by have := HTS.out; omega⟩, HD3.out.below0 HB1.out⟩
      · go_wp2_with fail
        refine (spoil_any w.heap.size a len cap t _ HD3.out.d (by have := HTS.out; omega)).mono ?_
        rintro e y4 ⟨⟨u, rfl, hu⟩, hD, hG⟩
        have HD4 : Hid (DrI x1 y4 w.heap.size a len cap) := HD3.out.call hD hG
        clear hD hG
        go_wp2
        go_ret
        exact ⟨⟨u, rfl, by have := HTS.out; omega⟩, HD4.out.below0 HB1.out⟩
end Go.Proofs.YtfmeickglipimaaDoor
