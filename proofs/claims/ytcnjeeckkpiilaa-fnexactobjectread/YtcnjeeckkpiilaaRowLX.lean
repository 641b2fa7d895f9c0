/- l07Read: an object read of its bytes, by the specification. -/
import Derived.Test.YtcnjeeckkpiilaaRows
import Derived.WalkKit
import Derived.WalkSpells
import Derived.WalkLawsBesides
import Derived.Outline
import Derived.RegionTactic
import Derived.BigRegion
import Derived.Deep.QuietTactic
import Derived.BigQuiet
import Derived.Deep.RegionHeld3
import Derived.Deep.RegionLaw
import Derived.Deep.AppendLies
import Derived.Deep.CutRange
import Derived.Deep.Light
import Derived.Test.YtcnjeeckkpiilaaBun0
import Derived.Test.YtcnjeeckkpiilaaBun1
import Derived.Test.YtcnjeeckkpiilaaBun3
import Derived.Test.YtcnjeeckkpiilaaReadMX
import Derived.Test.YtcnjeeckkpiilaaRowRdX
import Derived.Test.YtcnjeeckkpiilaaRowTkX
import Derived.Test.YtcnjeeckkpiilaaRowQX
import Derived.Test.YtcnjeeckkpiilaaOwnRowsX
import Derived.Test.YtcnjeeckkpiilaaReadOX
import Derived.Test.YtcnjeeckkpiilaaRowSX
import Derived.Test.YtcnjeeckkpiilaaHeldX
import Derived.Test.YtcnjeeckkpiilaaObjSX
import Derived.Test.YtcnjeeckkpiilaaLaySX
namespace Go.Proofs.Ytcnjeeckkpiilaa
open Go.RowKit
set_option linter.unusedVariables false

theorem is64_of {s : ByteArray} {wr : Bool} {q n q1 : Int} {w1 : Bool} (h : (w1 = false ∧ unlessB wr (pN s q) = some (n, q1)) ∨ (w1 = true ∧ unlessB wr (pN s q) = none)) (hq : 0 ≤ q) (hs : q ≤ s.size) : w1 = false → n ≤ 9223372036854775807 := fun e => by
  rcases h with ⟨_, h⟩ | ⟨h1, _⟩
  · cases wr
    · obtain ⟨p, rfl⟩ := Int.eq_ofNat_of_zero_le hq
      exact ((codecN s).can p n q1 (by omega) h).1.2
    · cases h
  · rw [e] at h1; cases h1
theorem sF_of {s : ByteArray} {wr : Bool} {q g q1 : Int} {w1 : Bool} (h : (w1 = false ∧ unlessB wr (pN s q) = some (g, q1)) ∨ (w1 = true ∧ unlessB wr (pN s q) = none)) : (w1 = false ∧ unlessB wr (sF s q) = some (g == 1, q1)) ∨ (w1 = true ∧ unlessB wr (sF s q) = none) := by
  have e : (g == 1) = decide (g = 1) := by rw [Bool.eq_iff_iff]; simp
  unfold sF
  rw [unless_bind, e]
  rcases h with ⟨h1, h⟩ | ⟨h1, h⟩
  · exact .inl ⟨h1, by rw [h]; rfl⟩
  · exact .inr ⟨h1, by rw [h]; rfl⟩
theorem specObject_is {a b c : Option Addr} {W : List Int} {S : List symE} {R : List refE} {ka kb kc : Nat} {w : World} (hO : ObjIs w a b c W S R) (hF : ObjFits W S R) {x : Bool} (h : objB W S R = x) : Calls Try.prog 31 #[.agg #[.slice a W.length ka, .slice b S.length kb, .slice c R.length kc]] w fun e w' => e = .returned (.bool x) ∧ Below w.heap.size w w' := by
  rw [← h]; exact specObject_any a b c W S R ka kb kc w hO hF
theorem l07Bytes_is {a b c : Option Addr} {W : List Int} {S : List symE} {R : List refE} {ka kb kc : Nat} {w : World} (hO : ObjIs w a b c W S R) (hF : ObjFits W S R) (hN1 : ∀ n ∈ W, is64 n) (hN2 : ∀ s ∈ S, s.1.size ≤ 20 ∧ is64 s.2.1) (hN3 : ∀ s ∈ R, s.2.1.size ≤ 20 ∧ is64 s.1 ∧ is64 s.2.2.1) {u : ByteArray} (h : objU W S R = u) : Calls Try.prog 32 #[.agg #[.slice a W.length ka, .slice b S.length kb, .slice c R.length kc]] w fun e w' => e = .returned (.string u) ∧ Below w.heap.size w w' := by
  rw [← h]; exact l07Bytes_any a b c W S R ka kb kc w hO hF hN1 hN2 hN3
def ReadQ (s : ByteArray) (w : World) (e : Ending) (w' : World) : Prop :=
  ∃ (vw vs vr : Value) (W : List Int) (S : List symE) (R : List refE) (ok : Bool), e = .returned (.tuple #[.agg #[vw, vs, vr], .bool ok]) ∧ OwnO w' (w.heap.size + 3) vw vs vr W S R ∧ Below w.heap.size w w' ∧
    ((ok = true ∧ pickS s (sAll s 0) = (0, (W, S, R)) ∧ ObjFits W S R) ∨ (ok = false ∧ pickS s (sAll s 0) = (3, nilO)))
set_option maxRecDepth 100000 in
set_option maxHeartbeats 12800000 in
theorem l07Read_any (s : ByteArray) (w : World) (hs : s.size ≤ 8000) : Calls Try.prog 46 #[.string s] w (ReadQ s w) := by
  have H0 : Hid (QS w (((w.alloc (.cells #[nilS, nilS, nilS] 34)).alloc (.cells #[.string s, .int .i64 0, .bool false] 123)).alloc (.cells #[nilS, nilS, nilS] 34)) s 0 false nilS nilS nilS [] [] []) := by
    have z0 : (w.alloc (.cells #[nilS, nilS, nilS] 34)).heap.size = w.heap.size + 1 := by simp
    have z1 : ((w.alloc (.cells #[nilS, nilS, nilS] 34)).alloc (.cells #[.string s, .int .i64 0, .bool false] 123)).heap.size = w.heap.size + 2 := by simp
    refine ⟨heap_more (heap_more (heap_alloc_new w _) _) _, ?_, OwnO.nil _ _, ⟨?_, by omega, by omega⟩, below_more (below_more (below_new _ _) _) _⟩
    · rw [← z1]; exact heap_alloc_new _ _
    · rw [← z0]; exact heap_more (heap_alloc_new _ _) _
  obtain ⟨i0, hi, hz0, hz1, hz2⟩ := info_parts infoI
  obtain ⟨j0, hj, hy0, hy1, hy2⟩ := info_parts infoSym
  obtain ⟨l0, hl, hx0, hx1, hx2⟩ := info_parts infoRef
  go_enter Try.func46, Try.ntmps46
  go_wp2_with fail
  generalize ((w.alloc (.cells #[nilS, nilS, nilS] 34)).alloc (.cells #[.string s, .int .i64 0, .bool false] 123)).alloc (.cells #[nilS, nilS, nilS] 34) = y0 at *
  refine (qNum_any _ s 0 false y0 H0.out.hr hs).mono ?_
  rintro e y1 ⟨hb, n, q1, w1, rfl, hR, hx⟩
  have H1 : Hid (QS w y1 s q1 w1 nilS nilS nilS [] [] []) := H0.out.but hb hR
  have HM1 : Hid (MidS (pN s) (unlessB false (sRow s (pN s) 0)) n [] q1 w1) := MidS.first hR.lo hx
  have HN1 : Hid (w1 = false → n ≤ 9223372036854775807) := is64_of hx (by omega) (by omega)
  clear hb hR hx H0
  go_wp2
  go_loopw [6] (fun kv y => ∃ (k : Int) (vw : Value) (W : List Int) (q : Int) (bad : Bool), kv = .int .i64 k ∧ Hid (bad = false → k ≤ 9223372036854775807) ∧ Hid (QS w y s q bad vw nilS nilS W [] []) ∧ Hid (MidS (pN s) (unlessB false (sRow s (pN s) 0)) k W q bad)) (fun kv _ => (intOf kv).toNat)
  case atStart => exact ⟨n, nilS, [], q1, w1, rfl, HN1.out, H1.out, HM1.out⟩
  case round =>
    obtain ⟨k, vw, W, q, bad, rfl, HK, HQ, HM⟩ := hrel
    obtain ⟨a, ka, rfl, _⟩ := HQ.out.ho.ws.is intC_len
    obtain ⟨g0, g1, g2⟩ := cells3L HQ.out.hg
    obtain ⟨d0, d1, d2⟩ := HQ.out.hr.cells
    obtain ⟨go, hgo⟩ : ∃ go, (decide (0 < k) && !bad) = go := ⟨_, rfl⟩
    go_upto_region 4 with fail
    go_cut [25] from 17 to 25 (fun s25 wx => s25 = .bool go ∧ wx = wr)
    case first =>
      subst hgo
      by_cases hk : 0 < k
      · cases bad
        · go_wp2_with fail
          go_meet
          go_light
          exact ⟨by rw [decide_eq_true hk]; rfl, rfl⟩
        · go_wp2_with fail
          go_meet
          go_light
          exact ⟨by rw [decide_eq_true hk]; rfl, rfl⟩
      · go_wp2_with fail
        go_meet
        go_light
        exact ⟨by rw [decide_eq_false (show ¬ 0 < k by omega)]; rfl, rfl⟩
    case rest =>
    obtain ⟨rfl, hwc⟩ := hcut
    subst hwc
    cases go
    · have HF1 : Hid (_ ∨ _) := HM.out.last (by
        cases bad
        · right; simpa using hgo
        · exact .inl rfl)
      clear hgo
      go_wp2_with fail
      -- LOOP2
      refine (qNum_any _ s q bad wc HQ.out.hr hs).mono ?_
      rintro e y2 ⟨hb, n2, q2, w2, rfl, hR, hx⟩
      have H2 : Hid (QS w y2 s q2 w2 (.slice a W.length ka) nilS nilS W [] []) := HQ.out.but hb hR
      have HM2 : Hid (MidS (sSym s) (unlessB bad (sRow s (sSym s) q)) n2 [] q2 w2) := MidS.first hR.lo hx
      have HN2 : Hid (w2 = false → n2 ≤ 9223372036854775807) := is64_of hx HQ.out.hr.lo HQ.out.hr.hi
      have HWl : Hid (W.length ≤ 8001) := HM.out.2.2
      clear hb hR hx HQ HM HK g0 g1 g2 d0 d1 d2
      go_wp2
      go_loopw [7] (fun kv y => ∃ (k : Int) (vs : Value) (S : List symE) (qa : Int) (bada : Bool), kv = .int .i64 k ∧ Hid (bada = false → k ≤ 9223372036854775807) ∧ Hid (QS w y s qa bada (.slice a W.length ka) vs nilS W S []) ∧ Hid (MidS (sSym s) (unlessB bad (sRow s (sSym s) q)) k S qa bada)) (fun kv _ => (intOf kv).toNat)
      case atStart => exact ⟨n2, nilS, [], q2, w2, rfl, HN2.out, H2.out, HM2.out⟩
      case round =>
        obtain ⟨k, vs, S, qa, bada, rfl, HK, HQ, HM⟩ := hrel
        obtain ⟨b, kb, rfl, _⟩ := HQ.out.ho.ss.is symC_len
        obtain ⟨g0, g1, g2⟩ := cells3L HQ.out.hg
        obtain ⟨d0, d1, d2⟩ := HQ.out.hr.cells
        obtain ⟨go, hgo⟩ : ∃ go, (decide (0 < k) && !bada) = go := ⟨_, rfl⟩
        go_upto_region 8 with fail
        go_cut [45] from 37 to 45 (fun s25 wx => s25 = .bool go ∧ wx = wr)
        case first =>
          subst hgo
          by_cases hk : 0 < k
          · cases bada
            · go_wp2_with fail
              go_meet
              go_light
              exact ⟨by rw [decide_eq_true hk]; rfl, rfl⟩
            · go_wp2_with fail
              go_meet
              go_light
              exact ⟨by rw [decide_eq_true hk]; rfl, rfl⟩
          · go_wp2_with fail
            go_meet
            go_light
            exact ⟨by rw [decide_eq_false (show ¬ 0 < k by omega)]; rfl, rfl⟩
        case rest =>
        obtain ⟨rfl, hwc⟩ := hcut
        subst hwc
        cases go
        · have HF2 : Hid (_ ∨ _) := HM.out.last (by
            cases bada
            · right; simpa using hgo
            · exact .inl rfl)
          clear hgo
          go_wp2_with fail
          -- LOOP3
          refine (qNum_any _ s qa bada wc HQ.out.hr hs).mono ?_
          rintro e y3 ⟨hb, n3, q4, w4, rfl, hR, hx⟩
          have H3 : Hid (QS w y3 s q4 w4 (.slice a W.length ka) (.slice b S.length kb) nilS W S []) := HQ.out.but hb hR
          have HM3 : Hid (MidS (sRef s) (unlessB bada (sRow s (sRef s) qa)) n3 [] q4 w4) := MidS.first hR.lo hx
          have HN3 : Hid (w4 = false → n3 ≤ 9223372036854775807) := is64_of hx HQ.out.hr.lo HQ.out.hr.hi
          have HSl : Hid (S.length ≤ 8001) := HM.out.2.2
          clear hb hR hx HQ HM HK g0 g1 g2 d0 d1 d2
          go_wp2
          go_loopw [9] (fun kv y => ∃ (k : Int) (vr : Value) (R : List refE) (qb : Int) (badb : Bool), kv = .int .i64 k ∧ Hid (badb = false → k ≤ 9223372036854775807) ∧ Hid (QS w y s qb badb (.slice a W.length ka) (.slice b S.length kb) vr W S R) ∧ Hid (MidS (sRef s) (unlessB bada (sRow s (sRef s) qa)) k R qb badb)) (fun kv _ => (intOf kv).toNat)
          case atStart => exact ⟨n3, nilS, [], q4, w4, rfl, HN3.out, H3.out, HM3.out⟩
          case round =>
            obtain ⟨k, vr, R, qb, badb, rfl, HK, HQ, HM⟩ := hrel
            obtain ⟨c, kc, rfl, _⟩ := HQ.out.ho.rs.is refC_len
            obtain ⟨g0, g1, g2⟩ := cells3L HQ.out.hg
            obtain ⟨d0, d1, d2⟩ := HQ.out.hr.cells
            obtain ⟨go, hgo⟩ : ∃ go, (decide (0 < k) && !badb) = go := ⟨_, rfl⟩
            go_upto_region 15 with fail
            go_cut [74] from 66 to 74 (fun s25 wx => s25 = .bool go ∧ wx = wr)
            case first =>
              subst hgo
              by_cases hk : 0 < k
              · cases badb
                · go_wp2_with fail
                  go_meet
                  go_light
                  exact ⟨by rw [decide_eq_true hk]; rfl, rfl⟩
                · go_wp2_with fail
                  go_meet
                  go_light
                  exact ⟨by rw [decide_eq_true hk]; rfl, rfl⟩
              · go_wp2_with fail
                go_meet
                go_light
                exact ⟨by rw [decide_eq_false (show ¬ 0 < k by omega)]; rfl, rfl⟩
            case rest =>
            obtain ⟨rfl, hwc⟩ := hcut
            subst hwc
            cases go
            · have HF3 : Hid (_ ∨ _) := HM.out.last (by
                cases badb
                · right; simpa using hgo
                · exact .inl rfl)
              have HRl : Hid (R.length ≤ 8001) := HM.out.2.2
              clear hgo
              -- END
              have HXA : Hid ((badb = false ∧ sAll s 0 = some ((W, S, R), qb)) ∨ (badb = true ∧ sAll s 0 = none)) := by
                have h2 := seq_step (f := sRow s (sSym s)) (g := sRow s (sRef s)) HF2.out HF3.out
                rw [← unless_bind] at h2
                have h1 := seq_step (f := sRow s (pN s)) (g := seqP (sRow s (sSym s)) (sRow s (sRef s))) HF1.out h2
                rw [← unless_bind] at h1
                exact h1
              clear HF1 HF2 HF3 HM HK
              obtain ⟨z0, z1, z2⟩ := cells3L HQ.out.hz
              have y0 : wc.frozen? ⟨w.heap.size, 0, none⟩ = false := frozen_of_row _ _ _ _ _ HQ.out.hz
              have y1 : wc.frozen? ⟨w.heap.size, 1, none⟩ = false := frozen_of_row _ _ _ _ _ HQ.out.hz
              have y2 : wc.frozen? ⟨w.heap.size, 2, none⟩ = false := frozen_of_row _ _ _ _ _ HQ.out.hz
              cases badb
              · have HP : Hid (sAll s 0 = some ((W, S, R), qb)) := by
                  show _ = _
                  rcases HXA.out with ⟨_, h⟩ | ⟨h, _⟩
                  · exact h
                  · cases h
                have HFI : Hid (ObjFits W S R) := sAll_fits HP.out HWl.out HSl.out HRl.out
                have HPK : Hid (pickS s (sAll s 0) = if objB W S R = true ∧ objU W S R = s then (0, (W, S, R)) else (3, nilO)) := by show _ = _; rw [HP.out]; rfl
                clear HXA
                go_wp2_with fail
                cases hok : objB W S R
                · have HOK : Hid (objB W S R = false) := hok
                  have HP2 : Hid (pickS s (sAll s 0) = (3, nilO)) := by show _ = _; rw [HPK.out]; exact if_neg (fun h => by rw [hok] at h; cases h.1)
                  clear hok
                  refine wp_region_held_drew (S := CZ w s qb false (.slice a W.length ka) (.slice b S.length kb) (.slice c R.length kc) W S R) (by kernel_rfl) (CZ.of HQ.out) (fun hS => WH.out ?_)
                  refine held_op 0 17 (.agg #[.slice a W.length ka, .slice b S.length kb, .slice c R.length kc]) rfl rfl (by kernel_rfl) (by kernel_rfl) (by kernel_rfl) (fun _ _ _ h => h) (by kernel_rfl) hS (fun Y hC => ?_) (fun K hK => ?_)
                  · obtain ⟨c0, c1, c2⟩ := cells3L hC.hg
                    obtain ⟨e0, e1, e2⟩ := cells3L hC.hr
                    go_simp
                  go_simp
                  refine hK _ ?_
                  clear hK K
                  refine held_op 1 16 (.pointer (some ⟨w.heap.size + 1, 0, none⟩)) rfl rfl (by kernel_rfl) (by kernel_rfl) (by kernel_rfl) (fun _ _ _ h => h) (by kernel_rfl) hS (fun Y hC => ?_) (fun K hK => ?_)
                  · obtain ⟨c0, c1, c2⟩ := cells3L hC.hg
                    obtain ⟨e0, e1, e2⟩ := cells3L hC.hr
                    go_simp
                  go_simp
                  refine hK _ ?_
                  clear hK K
                  refine held_op 2 15 (.pointer (some ⟨w.heap.size + 1, 0, none⟩)) rfl rfl (by kernel_rfl) (by kernel_rfl) (by kernel_rfl) (fun _ _ _ h => h) (by kernel_rfl) hS (fun Y hC => ?_) (fun K hK => ?_)
                  · obtain ⟨c0, c1, c2⟩ := cells3L hC.hg
                    obtain ⟨e0, e1, e2⟩ := cells3L hC.hr
                    go_simp
                  go_simp
                  refine hK _ ?_
                  clear hK K
                  refine held_op 3 14 (.pointer (some ⟨w.heap.size + 1, 2, none⟩)) rfl rfl (by kernel_rfl) (by kernel_rfl) (by kernel_rfl) (fun _ _ _ h => h) (by kernel_rfl) hS (fun Y hC => ?_) (fun K hK => ?_)
                  · obtain ⟨c0, c1, c2⟩ := cells3L hC.hg
                    obtain ⟨e0, e1, e2⟩ := cells3L hC.hr
                    go_simp
                  go_simp
                  refine hK _ ?_
                  clear hK K
                  refine held_op 4 13 (.bool false) rfl rfl (by kernel_rfl) (by kernel_rfl) (by kernel_rfl) (fun _ _ _ h => h) (by kernel_rfl) hS (fun Y hC => ?_) (fun K hK => ?_)
                  · obtain ⟨c0, c1, c2⟩ := cells3L hC.hg
                    obtain ⟨e0, e1, e2⟩ := cells3L hC.hr
                    go_simp
                  go_simp
                  refine hK _ ?_
                  clear hK K
                  refine held_op 5 12 (.bool true) rfl rfl (by kernel_rfl) (by kernel_rfl) (by kernel_rfl) (fun _ _ _ h => h) (by kernel_rfl) hS (fun Y hC => ?_) (fun K hK => ?_)
                  · obtain ⟨c0, c1, c2⟩ := cells3L hC.hg
                    obtain ⟨e0, e1, e2⟩ := cells3L hC.hr
                    go_simp
                  go_simp
                  refine hK _ ?_
                  clear hK K
                  refine held_op 6 11 (.bool true) rfl rfl (by kernel_rfl) (by kernel_rfl) (by kernel_rfl) (fun _ _ _ h => h) (by kernel_rfl) hS (fun Y hC => ?_) (fun K hK => ?_)
                  · obtain ⟨c0, c1, c2⟩ := cells3L hC.hg
                    obtain ⟨e0, e1, e2⟩ := cells3L hC.hr
                    go_simp
                  go_simp
                  refine hK _ ?_
                  clear hK K
                  refine held_op 7 10 (.agg #[.slice a W.length ka, .slice b S.length kb, .slice c R.length kc]) rfl rfl (by kernel_rfl) (by kernel_rfl) (by kernel_rfl) (fun _ _ _ h => h) (by kernel_rfl) hS (fun Y hC => ?_) (fun K hK => ?_)
                  · obtain ⟨c0, c1, c2⟩ := cells3L hC.hg
                    obtain ⟨e0, e1, e2⟩ := cells3L hC.hr
                    go_simp
                  go_simp
                  refine hK _ ?_
                  clear hK K
                  refine held_one 8 9 rfl (by kernel_rfl) rfl (by kernel_rfl) (fun K hK => ?_)
                  go_simp
                  refine (specObject_is hS.is HFI.out HOK.out).mono ?_
                  rintro e xc ⟨rfl, hb⟩
                  go_wp2_with fail
                  have hS := CZ.call hS hb
                  clear hb
                  refine hK.out _ _ hS ?_
                  clear hK K
                  refine held_op 9 8 (.bool false) rfl rfl (by kernel_rfl) (by kernel_rfl) (by kernel_rfl) (fun _ _ _ h => h) (by kernel_rfl) hS (fun Y hC => ?_) (fun K hK => ?_)
                  · obtain ⟨c0, c1, c2⟩ := cells3L hC.hg
                    obtain ⟨e0, e1, e2⟩ := cells3L hC.hr
                    go_simp
                  go_simp
                  refine hK _ ?_
                  clear hK K
                  refine held_op 10 7 (.bool false) rfl rfl (by kernel_rfl) (by kernel_rfl) (by kernel_rfl) (fun _ _ _ h => h) (by kernel_rfl) hS (fun Y hC => ?_) (fun K hK => ?_)
                  · obtain ⟨c0, c1, c2⟩ := cells3L hC.hg
                    obtain ⟨e0, e1, e2⟩ := cells3L hC.hr
                    go_simp
                  go_simp
                  refine hK _ ?_
                  clear hK K
                  refine held_skip 11 6 rfl rfl (by kernel_rfl) (by kernel_rfl) (by kernel_rfl) (fun _ _ _ h => h) (by kernel_rfl) hS (fun K hK => ?_)
                  go_simp
                  refine hK _ ?_
                  clear hK K
                  refine held_skip 12 5 rfl rfl (by kernel_rfl) (by kernel_rfl) (by kernel_rfl) (fun _ _ _ h => h) (by kernel_rfl) hS (fun K hK => ?_)
                  go_simp
                  refine hK _ ?_
                  clear hK K
                  refine held_skip 13 4 rfl rfl (by kernel_rfl) (by kernel_rfl) (by kernel_rfl) (fun _ _ _ h => h) (by kernel_rfl) hS (fun K hK => ?_)
                  go_simp
                  refine hK _ ?_
                  clear hK K
                  refine held_skip 14 3 rfl rfl (by kernel_rfl) (by kernel_rfl) (by kernel_rfl) (fun _ _ _ h => h) (by kernel_rfl) hS (fun K hK => ?_)
                  go_simp
                  refine hK _ ?_
                  clear hK K
                  refine held_op 15 2 (.bool false) rfl rfl (by kernel_rfl) (by kernel_rfl) (by kernel_rfl) (fun _ _ _ h => h) (by kernel_rfl) hS (fun Y hC => ?_) (fun K hK => ?_)
                  · obtain ⟨c0, c1, c2⟩ := cells3L hC.hg
                    obtain ⟨e0, e1, e2⟩ := cells3L hC.hr
                    go_simp
                  go_simp
                  refine hK _ ?_
                  clear hK K
                  refine held_one 16 1 rfl (by kernel_rfl) rfl (by kernel_rfl) (fun K hK => ?_)
                  obtain ⟨u0, u1, u2, hz⟩ := hS.hz
                  obtain ⟨z0, z1, z2⟩ := cells3L hz
                  have y0 := frozen_of_row _ _ 0 _ _ hz
                  have y1 := frozen_of_row _ _ 1 _ _ hz
                  have y2 := frozen_of_row _ _ 2 _ _ hz
                  go_simp
                  have HZe : Hid (_ = _) := heap_set (heap_set (heap_set hz 0 (.slice a W.length ka)) 1 (.slice b S.length kb)) 2 (.slice c R.length kc)
                  have hS := CZ.put hS (.slice a W.length ka) (.slice b S.length kb) (.slice c R.length kc)
                  clear z0 z1 z2 y0 y1 y2 hz
                  refine hK.out _ _ hS ?_
                  clear hK K
                  refine held_op 17 0 (.bool false) rfl rfl (by kernel_rfl) (by kernel_rfl) (by kernel_rfl) (fun _ _ _ h => h) (by kernel_rfl) hS (fun Y hC => ?_) (fun K hK => ?_)
                  · obtain ⟨c0, c1, c2⟩ := cells3L hC.hg
                    obtain ⟨e0, e1, e2⟩ := cells3L hC.hr
                    go_simp
                  go_simp
                  refine hK _ ?_
                  clear hK K
                  refine held_done (by kernel_rfl) ?_
                  go_wp2
                  refine bodyPost_ret (results_row1 Try.results46 _ _ w.heap.size 34 _ (0, 0) _ rfl HZe.out Try.underlying34 rfl (by kernel_rfl)) rfl ?_
                  exact ⟨_, _, _, W, S, R, false, rfl, hS.ho, hS.hb, .inr ⟨rfl, HP2.out⟩⟩
                · have HOK : Hid (objB W S R = true) := hok
                  obtain ⟨hn1, hn2, hn3⟩ := obj_nums hok
                  have HN1 : Hid (∀ n ∈ W, is64 n) := hn1
                  have HN2 : Hid (∀ s ∈ S, s.1.size ≤ 20 ∧ is64 s.2.1) := hn2
                  have HN3 : Hid (∀ s ∈ R, s.2.1.size ≤ 20 ∧ is64 s.1 ∧ is64 s.2.2.1) := hn3
                  obtain ⟨u, hu⟩ : ∃ u, objU W S R = u := ⟨_, rfl⟩
                  have HUE : Hid (objU W S R = u) := hu
                  clear hn1 hn2 hn3
                  by_cases hus : u = s
                  · have heq : (u.toList == s.toList) = true := by rw [hus]; simp
                    have HP2 : Hid (pickS s (sAll s 0) = (0, (W, S, R))) := by show _ = _; rw [HPK.out]; exact if_pos ⟨hok, hu.trans hus⟩
                    clear hok hu hus
                    refine wp_region_held_drew (S := CZ w s qb false (.slice a W.length ka) (.slice b S.length kb) (.slice c R.length kc) W S R) (by kernel_rfl) (CZ.of HQ.out) (fun hS => WH.out ?_)
                    refine held_op 0 17 (.agg #[.slice a W.length ka, .slice b S.length kb, .slice c R.length kc]) rfl rfl (by kernel_rfl) (by kernel_rfl) (by kernel_rfl) (fun _ _ _ h => h) (by kernel_rfl) hS (fun Y hC => ?_) (fun K hK => ?_)
                    · obtain ⟨c0, c1, c2⟩ := cells3L hC.hg
                      obtain ⟨e0, e1, e2⟩ := cells3L hC.hr
                      go_simp
                    go_simp
                    refine hK _ ?_
                    clear hK K
                    refine held_op 1 16 (.pointer (some ⟨w.heap.size + 1, 0, none⟩)) rfl rfl (by kernel_rfl) (by kernel_rfl) (by kernel_rfl) (fun _ _ _ h => h) (by kernel_rfl) hS (fun Y hC => ?_) (fun K hK => ?_)
                    · obtain ⟨c0, c1, c2⟩ := cells3L hC.hg
                      obtain ⟨e0, e1, e2⟩ := cells3L hC.hr
                      go_simp
                    go_simp
                    refine hK _ ?_
                    clear hK K
                    refine held_op 2 15 (.pointer (some ⟨w.heap.size + 1, 0, none⟩)) rfl rfl (by kernel_rfl) (by kernel_rfl) (by kernel_rfl) (fun _ _ _ h => h) (by kernel_rfl) hS (fun Y hC => ?_) (fun K hK => ?_)
                    · obtain ⟨c0, c1, c2⟩ := cells3L hC.hg
                      obtain ⟨e0, e1, e2⟩ := cells3L hC.hr
                      go_simp
                    go_simp
                    refine hK _ ?_
                    clear hK K
                    refine held_op 3 14 (.pointer (some ⟨w.heap.size + 1, 2, none⟩)) rfl rfl (by kernel_rfl) (by kernel_rfl) (by kernel_rfl) (fun _ _ _ h => h) (by kernel_rfl) hS (fun Y hC => ?_) (fun K hK => ?_)
                    · obtain ⟨c0, c1, c2⟩ := cells3L hC.hg
                      obtain ⟨e0, e1, e2⟩ := cells3L hC.hr
                      go_simp
                    go_simp
                    refine hK _ ?_
                    clear hK K
                    refine held_op 4 13 (.bool false) rfl rfl (by kernel_rfl) (by kernel_rfl) (by kernel_rfl) (fun _ _ _ h => h) (by kernel_rfl) hS (fun Y hC => ?_) (fun K hK => ?_)
                    · obtain ⟨c0, c1, c2⟩ := cells3L hC.hg
                      obtain ⟨e0, e1, e2⟩ := cells3L hC.hr
                      go_simp
                    go_simp
                    refine hK _ ?_
                    clear hK K
                    refine held_op 5 12 (.bool true) rfl rfl (by kernel_rfl) (by kernel_rfl) (by kernel_rfl) (fun _ _ _ h => h) (by kernel_rfl) hS (fun Y hC => ?_) (fun K hK => ?_)
                    · obtain ⟨c0, c1, c2⟩ := cells3L hC.hg
                      obtain ⟨e0, e1, e2⟩ := cells3L hC.hr
                      go_simp
                    go_simp
                    refine hK _ ?_
                    clear hK K
                    refine held_op 6 11 (.bool true) rfl rfl (by kernel_rfl) (by kernel_rfl) (by kernel_rfl) (fun _ _ _ h => h) (by kernel_rfl) hS (fun Y hC => ?_) (fun K hK => ?_)
                    · obtain ⟨c0, c1, c2⟩ := cells3L hC.hg
                      obtain ⟨e0, e1, e2⟩ := cells3L hC.hr
                      go_simp
                    go_simp
                    refine hK _ ?_
                    clear hK K
                    refine held_op 7 10 (.agg #[.slice a W.length ka, .slice b S.length kb, .slice c R.length kc]) rfl rfl (by kernel_rfl) (by kernel_rfl) (by kernel_rfl) (fun _ _ _ h => h) (by kernel_rfl) hS (fun Y hC => ?_) (fun K hK => ?_)
                    · obtain ⟨c0, c1, c2⟩ := cells3L hC.hg
                      obtain ⟨e0, e1, e2⟩ := cells3L hC.hr
                      go_simp
                    go_simp
                    refine hK _ ?_
                    clear hK K
                    refine held_one 8 9 rfl (by kernel_rfl) rfl (by kernel_rfl) (fun K hK => ?_)
                    go_simp
                    refine (specObject_is hS.is HFI.out HOK.out).mono ?_
                    rintro e xc ⟨rfl, hb⟩
                    go_wp2_with fail
                    have hS := CZ.call hS hb
                    clear hb
                    refine hK.out _ _ hS ?_
                    clear hK K
                    refine held_op 9 8 (.bool true) rfl rfl (by kernel_rfl) (by kernel_rfl) (by kernel_rfl) (fun _ _ _ h => h) (by kernel_rfl) hS (fun Y hC => ?_) (fun K hK => ?_)
                    · obtain ⟨c0, c1, c2⟩ := cells3L hC.hg
                      obtain ⟨e0, e1, e2⟩ := cells3L hC.hr
                      go_simp
                    go_simp
                    refine hK _ ?_
                    clear hK K
                    refine held_op 10 7 (.bool true) rfl rfl (by kernel_rfl) (by kernel_rfl) (by kernel_rfl) (fun _ _ _ h => h) (by kernel_rfl) hS (fun Y hC => ?_) (fun K hK => ?_)
                    · obtain ⟨c0, c1, c2⟩ := cells3L hC.hg
                      obtain ⟨e0, e1, e2⟩ := cells3L hC.hr
                      go_simp
                    go_simp
                    refine hK _ ?_
                    clear hK K
                    refine held_op 11 6 (.agg #[.slice a W.length ka, .slice b S.length kb, .slice c R.length kc]) rfl rfl (by kernel_rfl) (by kernel_rfl) (by kernel_rfl) (fun _ _ _ h => h) (by kernel_rfl) hS (fun Y hC => ?_) (fun K hK => ?_)
                    · obtain ⟨c0, c1, c2⟩ := cells3L hC.hg
                      obtain ⟨e0, e1, e2⟩ := cells3L hC.hr
                      go_simp
                    go_simp
                    refine hK _ ?_
                    clear hK K
                    refine held_op 13 5 (.string s) rfl rfl (by kernel_rfl) (by kernel_rfl) (by kernel_rfl) (fun _ _ _ h => h) (by kernel_rfl) hS (fun Y hC => ?_) (fun K hK => ?_)
                    · obtain ⟨c0, c1, c2⟩ := cells3L hC.hg
                      obtain ⟨e0, e1, e2⟩ := cells3L hC.hr
                      go_simp
                    go_simp
                    refine hK _ ?_
                    clear hK K
                    refine held_one 12 4 rfl (by kernel_rfl) rfl (by kernel_rfl) (fun K hK => ?_)
                    go_simp
                    refine (l07Bytes_is hS.is HFI.out HN1.out HN2.out HN3.out HUE.out).mono ?_
                    rintro e xc ⟨rfl, hb⟩
                    go_wp2_with fail
                    have hS := CZ.call hS hb
                    clear hb
                    refine hK.out _ _ hS ?_
                    clear hK K
                    refine held_op 14 3 (.bool true) rfl rfl (by kernel_rfl) (by kernel_rfl) (by kernel_rfl) (fun _ _ _ h => h) (by kernel_rfl) hS (fun Y hC => ?_) (fun K hK => ?_)
                    · obtain ⟨c0, c1, c2⟩ := cells3L hC.hg
                      obtain ⟨e0, e1, e2⟩ := cells3L hC.hr
                      go_simp
                    go_simp
                    refine hK _ ?_
                    clear hK K
                    refine held_op 15 2 (.bool true) rfl rfl (by kernel_rfl) (by kernel_rfl) (by kernel_rfl) (fun _ _ _ h => h) (by kernel_rfl) hS (fun Y hC => ?_) (fun K hK => ?_)
                    · obtain ⟨c0, c1, c2⟩ := cells3L hC.hg
                      obtain ⟨e0, e1, e2⟩ := cells3L hC.hr
                      go_simp
                    go_simp
                    refine hK _ ?_
                    clear hK K
                    refine held_one 16 1 rfl (by kernel_rfl) rfl (by kernel_rfl) (fun K hK => ?_)
                    obtain ⟨u0, u1, u2, hz⟩ := hS.hz
                    obtain ⟨z0, z1, z2⟩ := cells3L hz
                    have y0 := frozen_of_row _ _ 0 _ _ hz
                    have y1 := frozen_of_row _ _ 1 _ _ hz
                    have y2 := frozen_of_row _ _ 2 _ _ hz
                    go_simp
                    have HZe : Hid (_ = _) := heap_set (heap_set (heap_set hz 0 (.slice a W.length ka)) 1 (.slice b S.length kb)) 2 (.slice c R.length kc)
                    have hS := CZ.put hS (.slice a W.length ka) (.slice b S.length kb) (.slice c R.length kc)
                    clear z0 z1 z2 y0 y1 y2 hz
                    refine hK.out _ _ hS ?_
                    clear hK K
                    refine held_op 17 0 (.bool true) rfl rfl (by kernel_rfl) (by kernel_rfl) (by kernel_rfl) (fun _ _ _ h => h) (by kernel_rfl) hS (fun Y hC => ?_) (fun K hK => ?_)
                    · obtain ⟨c0, c1, c2⟩ := cells3L hC.hg
                      obtain ⟨e0, e1, e2⟩ := cells3L hC.hr
                      go_simp
                    go_simp
                    refine hK _ ?_
                    clear hK K
                    refine held_done (by kernel_rfl) ?_
                    go_wp2
                    refine bodyPost_ret (results_row1 Try.results46 _ _ w.heap.size 34 _ (0, 0) _ rfl HZe.out Try.underlying34 rfl (by kernel_rfl)) rfl ?_
                    exact ⟨_, _, _, W, S, R, true, rfl, hS.ho, hS.hb, .inl ⟨rfl, HP2.out, HFI.out⟩⟩
                  · have heq : (u.toList == s.toList) = false := textS_ne hus
                    have HP2 : Hid (pickS s (sAll s 0) = (3, nilO)) := by show _ = _; rw [HPK.out]; exact if_neg (fun h => hus (hu.symm.trans h.2))
                    clear hok hu hus
                    refine wp_region_held_drew (S := CZ w s qb false (.slice a W.length ka) (.slice b S.length kb) (.slice c R.length kc) W S R) (by kernel_rfl) (CZ.of HQ.out) (fun hS => WH.out ?_)
                    refine held_op 0 17 (.agg #[.slice a W.length ka, .slice b S.length kb, .slice c R.length kc]) rfl rfl (by kernel_rfl) (by kernel_rfl) (by kernel_rfl) (fun _ _ _ h => h) (by kernel_rfl) hS (fun Y hC => ?_) (fun K hK => ?_)
                    · obtain ⟨c0, c1, c2⟩ := cells3L hC.hg
                      obtain ⟨e0, e1, e2⟩ := cells3L hC.hr
                      go_simp
                    go_simp
                    refine hK _ ?_
                    clear hK K
                    refine held_op 1 16 (.pointer (some ⟨w.heap.size + 1, 0, none⟩)) rfl rfl (by kernel_rfl) (by kernel_rfl) (by kernel_rfl) (fun _ _ _ h => h) (by kernel_rfl) hS (fun Y hC => ?_) (fun K hK => ?_)
                    · obtain ⟨c0, c1, c2⟩ := cells3L hC.hg
                      obtain ⟨e0, e1, e2⟩ := cells3L hC.hr
                      go_simp
                    go_simp
                    refine hK _ ?_
                    clear hK K
                    refine held_op 2 15 (.pointer (some ⟨w.heap.size + 1, 0, none⟩)) rfl rfl (by kernel_rfl) (by kernel_rfl) (by kernel_rfl) (fun _ _ _ h => h) (by kernel_rfl) hS (fun Y hC => ?_) (fun K hK => ?_)
                    · obtain ⟨c0, c1, c2⟩ := cells3L hC.hg
                      obtain ⟨e0, e1, e2⟩ := cells3L hC.hr
                      go_simp
                    go_simp
                    refine hK _ ?_
                    clear hK K
                    refine held_op 3 14 (.pointer (some ⟨w.heap.size + 1, 2, none⟩)) rfl rfl (by kernel_rfl) (by kernel_rfl) (by kernel_rfl) (fun _ _ _ h => h) (by kernel_rfl) hS (fun Y hC => ?_) (fun K hK => ?_)
                    · obtain ⟨c0, c1, c2⟩ := cells3L hC.hg
                      obtain ⟨e0, e1, e2⟩ := cells3L hC.hr
                      go_simp
                    go_simp
                    refine hK _ ?_
                    clear hK K
                    refine held_op 4 13 (.bool false) rfl rfl (by kernel_rfl) (by kernel_rfl) (by kernel_rfl) (fun _ _ _ h => h) (by kernel_rfl) hS (fun Y hC => ?_) (fun K hK => ?_)
                    · obtain ⟨c0, c1, c2⟩ := cells3L hC.hg
                      obtain ⟨e0, e1, e2⟩ := cells3L hC.hr
                      go_simp
                    go_simp
                    refine hK _ ?_
                    clear hK K
                    refine held_op 5 12 (.bool true) rfl rfl (by kernel_rfl) (by kernel_rfl) (by kernel_rfl) (fun _ _ _ h => h) (by kernel_rfl) hS (fun Y hC => ?_) (fun K hK => ?_)
                    · obtain ⟨c0, c1, c2⟩ := cells3L hC.hg
                      obtain ⟨e0, e1, e2⟩ := cells3L hC.hr
                      go_simp
                    go_simp
                    refine hK _ ?_
                    clear hK K
                    refine held_op 6 11 (.bool true) rfl rfl (by kernel_rfl) (by kernel_rfl) (by kernel_rfl) (fun _ _ _ h => h) (by kernel_rfl) hS (fun Y hC => ?_) (fun K hK => ?_)
                    · obtain ⟨c0, c1, c2⟩ := cells3L hC.hg
                      obtain ⟨e0, e1, e2⟩ := cells3L hC.hr
                      go_simp
                    go_simp
                    refine hK _ ?_
                    clear hK K
                    refine held_op 7 10 (.agg #[.slice a W.length ka, .slice b S.length kb, .slice c R.length kc]) rfl rfl (by kernel_rfl) (by kernel_rfl) (by kernel_rfl) (fun _ _ _ h => h) (by kernel_rfl) hS (fun Y hC => ?_) (fun K hK => ?_)
                    · obtain ⟨c0, c1, c2⟩ := cells3L hC.hg
                      obtain ⟨e0, e1, e2⟩ := cells3L hC.hr
                      go_simp
                    go_simp
                    refine hK _ ?_
                    clear hK K
                    refine held_one 8 9 rfl (by kernel_rfl) rfl (by kernel_rfl) (fun K hK => ?_)
                    go_simp
                    refine (specObject_is hS.is HFI.out HOK.out).mono ?_
                    rintro e xc ⟨rfl, hb⟩
                    go_wp2_with fail
                    have hS := CZ.call hS hb
                    clear hb
                    refine hK.out _ _ hS ?_
                    clear hK K
                    refine held_op 9 8 (.bool true) rfl rfl (by kernel_rfl) (by kernel_rfl) (by kernel_rfl) (fun _ _ _ h => h) (by kernel_rfl) hS (fun Y hC => ?_) (fun K hK => ?_)
                    · obtain ⟨c0, c1, c2⟩ := cells3L hC.hg
                      obtain ⟨e0, e1, e2⟩ := cells3L hC.hr
                      go_simp
                    go_simp
                    refine hK _ ?_
                    clear hK K
                    refine held_op 10 7 (.bool true) rfl rfl (by kernel_rfl) (by kernel_rfl) (by kernel_rfl) (fun _ _ _ h => h) (by kernel_rfl) hS (fun Y hC => ?_) (fun K hK => ?_)
                    · obtain ⟨c0, c1, c2⟩ := cells3L hC.hg
                      obtain ⟨e0, e1, e2⟩ := cells3L hC.hr
                      go_simp
                    go_simp
                    refine hK _ ?_
                    clear hK K
                    refine held_op 11 6 (.agg #[.slice a W.length ka, .slice b S.length kb, .slice c R.length kc]) rfl rfl (by kernel_rfl) (by kernel_rfl) (by kernel_rfl) (fun _ _ _ h => h) (by kernel_rfl) hS (fun Y hC => ?_) (fun K hK => ?_)
                    · obtain ⟨c0, c1, c2⟩ := cells3L hC.hg
                      obtain ⟨e0, e1, e2⟩ := cells3L hC.hr
                      go_simp
                    go_simp
                    refine hK _ ?_
                    clear hK K
                    refine held_op 13 5 (.string s) rfl rfl (by kernel_rfl) (by kernel_rfl) (by kernel_rfl) (fun _ _ _ h => h) (by kernel_rfl) hS (fun Y hC => ?_) (fun K hK => ?_)
                    · obtain ⟨c0, c1, c2⟩ := cells3L hC.hg
                      obtain ⟨e0, e1, e2⟩ := cells3L hC.hr
                      go_simp
                    go_simp
                    refine hK _ ?_
                    clear hK K
                    refine held_one 12 4 rfl (by kernel_rfl) rfl (by kernel_rfl) (fun K hK => ?_)
                    go_simp
                    refine (l07Bytes_is hS.is HFI.out HN1.out HN2.out HN3.out HUE.out).mono ?_
                    rintro e xc ⟨rfl, hb⟩
                    go_wp2_with fail
                    have hS := CZ.call hS hb
                    clear hb
                    refine hK.out _ _ hS ?_
                    clear hK K
                    refine held_op 14 3 (.bool false) rfl rfl (by kernel_rfl) (by kernel_rfl) (by kernel_rfl) (fun _ _ _ h => h) (by kernel_rfl) hS (fun Y hC => ?_) (fun K hK => ?_)
                    · obtain ⟨c0, c1, c2⟩ := cells3L hC.hg
                      obtain ⟨e0, e1, e2⟩ := cells3L hC.hr
                      go_simp
                    go_simp
                    refine hK _ ?_
                    clear hK K
                    refine held_op 15 2 (.bool false) rfl rfl (by kernel_rfl) (by kernel_rfl) (by kernel_rfl) (fun _ _ _ h => h) (by kernel_rfl) hS (fun Y hC => ?_) (fun K hK => ?_)
                    · obtain ⟨c0, c1, c2⟩ := cells3L hC.hg
                      obtain ⟨e0, e1, e2⟩ := cells3L hC.hr
                      go_simp
                    go_simp
                    refine hK _ ?_
                    clear hK K
                    refine held_one 16 1 rfl (by kernel_rfl) rfl (by kernel_rfl) (fun K hK => ?_)
                    obtain ⟨u0, u1, u2, hz⟩ := hS.hz
                    obtain ⟨z0, z1, z2⟩ := cells3L hz
                    have y0 := frozen_of_row _ _ 0 _ _ hz
                    have y1 := frozen_of_row _ _ 1 _ _ hz
                    have y2 := frozen_of_row _ _ 2 _ _ hz
                    go_simp
                    have HZe : Hid (_ = _) := heap_set (heap_set (heap_set hz 0 (.slice a W.length ka)) 1 (.slice b S.length kb)) 2 (.slice c R.length kc)
                    have hS := CZ.put hS (.slice a W.length ka) (.slice b S.length kb) (.slice c R.length kc)
                    clear z0 z1 z2 y0 y1 y2 hz
                    refine hK.out _ _ hS ?_
                    clear hK K
                    refine held_op 17 0 (.bool false) rfl rfl (by kernel_rfl) (by kernel_rfl) (by kernel_rfl) (fun _ _ _ h => h) (by kernel_rfl) hS (fun Y hC => ?_) (fun K hK => ?_)
                    · obtain ⟨c0, c1, c2⟩ := cells3L hC.hg
                      obtain ⟨e0, e1, e2⟩ := cells3L hC.hr
                      go_simp
                    go_simp
                    refine hK _ ?_
                    clear hK K
                    refine held_done (by kernel_rfl) ?_
                    go_wp2
                    refine bodyPost_ret (results_row1 Try.results46 _ _ w.heap.size 34 _ (0, 0) _ rfl HZe.out Try.underlying34 rfl (by kernel_rfl)) rfl ?_
                    exact ⟨_, _, _, W, S, R, false, rfl, hS.ho, hS.hb, .inr ⟨rfl, HP2.out⟩⟩
              · have HP : Hid (pickS s (sAll s 0) = (3, nilO)) := by
                  show _ = _
                  rcases HXA.out with ⟨h, _⟩ | ⟨_, h⟩
                  · cases h
                  · rw [h]; rfl
                clear HXA
                go_wp2_with fail
                refine wp_region_held_drew (S := CZ w s qb true (.slice a W.length ka) (.slice b S.length kb) (.slice c R.length kc) W S R) (by kernel_rfl) (CZ.of HQ.out) (fun hS => WH.out ?_)
                refine held_op 0 17 (.agg #[.slice a W.length ka, .slice b S.length kb, .slice c R.length kc]) rfl rfl (by kernel_rfl) (by kernel_rfl) (by kernel_rfl) (fun _ _ _ h => h) (by kernel_rfl) hS (fun Y hC => ?_) (fun K hK => ?_)
                · obtain ⟨c0, c1, c2⟩ := cells3L hC.hg
                  obtain ⟨e0, e1, e2⟩ := cells3L hC.hr
                  go_simp
                go_simp
                refine hK _ ?_
                clear hK K
                refine held_op 1 16 (.pointer (some ⟨w.heap.size + 1, 0, none⟩)) rfl rfl (by kernel_rfl) (by kernel_rfl) (by kernel_rfl) (fun _ _ _ h => h) (by kernel_rfl) hS (fun Y hC => ?_) (fun K hK => ?_)
                · obtain ⟨c0, c1, c2⟩ := cells3L hC.hg
                  obtain ⟨e0, e1, e2⟩ := cells3L hC.hr
                  go_simp
                go_simp
                refine hK _ ?_
                clear hK K
                refine held_op 2 15 (.pointer (some ⟨w.heap.size + 1, 0, none⟩)) rfl rfl (by kernel_rfl) (by kernel_rfl) (by kernel_rfl) (fun _ _ _ h => h) (by kernel_rfl) hS (fun Y hC => ?_) (fun K hK => ?_)
                · obtain ⟨c0, c1, c2⟩ := cells3L hC.hg
                  obtain ⟨e0, e1, e2⟩ := cells3L hC.hr
                  go_simp
                go_simp
                refine hK _ ?_
                clear hK K
                refine held_op 3 14 (.pointer (some ⟨w.heap.size + 1, 2, none⟩)) rfl rfl (by kernel_rfl) (by kernel_rfl) (by kernel_rfl) (fun _ _ _ h => h) (by kernel_rfl) hS (fun Y hC => ?_) (fun K hK => ?_)
                · obtain ⟨c0, c1, c2⟩ := cells3L hC.hg
                  obtain ⟨e0, e1, e2⟩ := cells3L hC.hr
                  go_simp
                go_simp
                refine hK _ ?_
                clear hK K
                refine held_op 4 13 (.bool true) rfl rfl (by kernel_rfl) (by kernel_rfl) (by kernel_rfl) (fun _ _ _ h => h) (by kernel_rfl) hS (fun Y hC => ?_) (fun K hK => ?_)
                · obtain ⟨c0, c1, c2⟩ := cells3L hC.hg
                  obtain ⟨e0, e1, e2⟩ := cells3L hC.hr
                  go_simp
                go_simp
                refine hK _ ?_
                clear hK K
                refine held_op 5 12 (.bool false) rfl rfl (by kernel_rfl) (by kernel_rfl) (by kernel_rfl) (fun _ _ _ h => h) (by kernel_rfl) hS (fun Y hC => ?_) (fun K hK => ?_)
                · obtain ⟨c0, c1, c2⟩ := cells3L hC.hg
                  obtain ⟨e0, e1, e2⟩ := cells3L hC.hr
                  go_simp
                go_simp
                refine hK _ ?_
                clear hK K
                refine held_op 6 11 (.bool false) rfl rfl (by kernel_rfl) (by kernel_rfl) (by kernel_rfl) (fun _ _ _ h => h) (by kernel_rfl) hS (fun Y hC => ?_) (fun K hK => ?_)
                · obtain ⟨c0, c1, c2⟩ := cells3L hC.hg
                  obtain ⟨e0, e1, e2⟩ := cells3L hC.hr
                  go_simp
                go_simp
                refine hK _ ?_
                clear hK K
                refine held_skip 7 10 rfl rfl (by kernel_rfl) (by kernel_rfl) (by kernel_rfl) (fun _ _ _ h => h) (by kernel_rfl) hS (fun K hK => ?_)
                go_simp
                refine hK _ ?_
                clear hK K
                refine held_skip 8 9 rfl rfl (by kernel_rfl) (by kernel_rfl) (by kernel_rfl) (fun _ _ _ h => h) (by kernel_rfl) hS (fun K hK => ?_)
                go_simp
                refine hK _ ?_
                clear hK K
                refine held_op 9 8 (.bool false) rfl rfl (by kernel_rfl) (by kernel_rfl) (by kernel_rfl) (fun _ _ _ h => h) (by kernel_rfl) hS (fun Y hC => ?_) (fun K hK => ?_)
                · obtain ⟨c0, c1, c2⟩ := cells3L hC.hg
                  obtain ⟨e0, e1, e2⟩ := cells3L hC.hr
                  go_simp
                go_simp
                refine hK _ ?_
                clear hK K
                refine held_op 10 7 (.bool false) rfl rfl (by kernel_rfl) (by kernel_rfl) (by kernel_rfl) (fun _ _ _ h => h) (by kernel_rfl) hS (fun Y hC => ?_) (fun K hK => ?_)
                · obtain ⟨c0, c1, c2⟩ := cells3L hC.hg
                  obtain ⟨e0, e1, e2⟩ := cells3L hC.hr
                  go_simp
                go_simp
                refine hK _ ?_
                clear hK K
                refine held_skip 11 6 rfl rfl (by kernel_rfl) (by kernel_rfl) (by kernel_rfl) (fun _ _ _ h => h) (by kernel_rfl) hS (fun K hK => ?_)
                go_simp
                refine hK _ ?_
                clear hK K
                refine held_skip 12 5 rfl rfl (by kernel_rfl) (by kernel_rfl) (by kernel_rfl) (fun _ _ _ h => h) (by kernel_rfl) hS (fun K hK => ?_)
                go_simp
                refine hK _ ?_
                clear hK K
                refine held_skip 13 4 rfl rfl (by kernel_rfl) (by kernel_rfl) (by kernel_rfl) (fun _ _ _ h => h) (by kernel_rfl) hS (fun K hK => ?_)
                go_simp
                refine hK _ ?_
                clear hK K
                refine held_skip 14 3 rfl rfl (by kernel_rfl) (by kernel_rfl) (by kernel_rfl) (fun _ _ _ h => h) (by kernel_rfl) hS (fun K hK => ?_)
                go_simp
                refine hK _ ?_
                clear hK K
                refine held_op 15 2 (.bool false) rfl rfl (by kernel_rfl) (by kernel_rfl) (by kernel_rfl) (fun _ _ _ h => h) (by kernel_rfl) hS (fun Y hC => ?_) (fun K hK => ?_)
                · obtain ⟨c0, c1, c2⟩ := cells3L hC.hg
                  obtain ⟨e0, e1, e2⟩ := cells3L hC.hr
                  go_simp
                go_simp
                refine hK _ ?_
                clear hK K
                refine held_one 16 1 rfl (by kernel_rfl) rfl (by kernel_rfl) (fun K hK => ?_)
                obtain ⟨u0, u1, u2, hz⟩ := hS.hz
                obtain ⟨z0, z1, z2⟩ := cells3L hz
                have y0 := frozen_of_row _ _ 0 _ _ hz
                have y1 := frozen_of_row _ _ 1 _ _ hz
                have y2 := frozen_of_row _ _ 2 _ _ hz
                go_simp
                have HZe : Hid (_ = _) := heap_set (heap_set (heap_set hz 0 (.slice a W.length ka)) 1 (.slice b S.length kb)) 2 (.slice c R.length kc)
                have hS := CZ.put hS (.slice a W.length ka) (.slice b S.length kb) (.slice c R.length kc)
                clear z0 z1 z2 y0 y1 y2 hz
                refine hK.out _ _ hS ?_
                clear hK K
                refine held_op 17 0 (.bool false) rfl rfl (by kernel_rfl) (by kernel_rfl) (by kernel_rfl) (fun _ _ _ h => h) (by kernel_rfl) hS (fun Y hC => ?_) (fun K hK => ?_)
                · obtain ⟨c0, c1, c2⟩ := cells3L hC.hg
                  obtain ⟨e0, e1, e2⟩ := cells3L hC.hr
                  go_simp
                go_simp
                refine hK _ ?_
                clear hK K
                refine held_done (by kernel_rfl) ?_
                go_wp2
                refine bodyPost_ret (results_row1 Try.results46 _ _ w.heap.size 34 _ (0, 0) _ rfl HZe.out Try.underlying34 rfl (by kernel_rfl)) rfl ?_
                exact ⟨_, _, _, W, S, R, false, rfl, hS.ho, hS.hb, .inr ⟨rfl, HP.out⟩⟩
            · obtain ⟨hk, rfl⟩ : 0 < k ∧ badb = false := by simpa using hgo
              have hlo := HQ.out.hr.lo
              have hhi := HQ.out.hr.hi
              have hWl := HM.out.2.2
              have hsz := HQ.out.size
              have hk1 := HK.out rfl
              clear hgo g0 g1 g2 d0 d1 d2
              go_wp2_with fail
              refine (qNum_any _ s qb false wc HQ.out.hr hs).mono ?_
              rintro e x1 ⟨hb, p, q1, w1, rfl, hR, hx⟩
              have HQ1 : Hid (QS w x1 s q1 w1 (.slice a W.length ka) (.slice b S.length kb) (.slice c R.length kc) W S R) := HQ.out.but hb hR
              have HX1 : Hid (_ ∨ _) := hx
              clear hb hR hx
              have HY1 : Hid (QS w (x1.alloc (.cells #[.int .i64 p, .string ⟨#[]⟩, .int .i64 0, .bool false] 70)) s q1 w1 (.slice a W.length ka) (.slice b S.length kb) (.slice c R.length kc) W S R) := HQ1.out.call (below_new _ _)
              have HZ1 : Hid ((x1.alloc (.cells #[.int .i64 p, .string ⟨#[]⟩, .int .i64 0, .bool false] 70)).heap[x1.heap.size]? = some (.cells #[.int .i64 p, .string ⟨#[]⟩, .int .i64 0, .bool false] 70 (0, 0))) := heap_alloc_new _ _
              have hnb : w.heap.size + 3 ≤ x1.heap.size := HQ1.out.size
              have hoa : ∀ v : Value, (∀ q, v.ownBlock = some q → q < x1.heap.size) → v.ownBlock ≠ some x1.heap.size := fun v h e => absurd (h _ e) (by omega)
              have ho1 := hoa _ (fun q e => (HQ1.out.ho.ws.blk q e).2)
              have ho2 := hoa _ (fun q e => (HQ1.out.ho.ss.blk q e).2)
              have ho3 := hoa _ (fun q e => (HQ1.out.ho.rs.blk q e).2)
              have HO1 : Hid (Value.ownBlock _ ≠ some x1.heap.size) := ho1
              have HO2 : Hid (Value.ownBlock _ ≠ some x1.heap.size) := ho2
              have HO3 : Hid (Value.ownBlock _ ≠ some x1.heap.size) := ho3
              clear hoa ho1 ho2 ho3
              go_wp2_with fail
              refine (qText_any _ s q1 w1 _ HY1.out.hr hs).mono ?_
              rintro e x2 ⟨hb, t, q2, w2, rfl, hR, hx⟩
              have HQ2 : Hid (QS w x2 s q2 w2 (.slice a W.length ka) (.slice b S.length kb) (.slice c R.length kc) W S R) := HY1.out.but hb hR
              have HX2 : Hid (_ ∨ _) := hx
              have HW2 : Hid (x2.heap[x1.heap.size]? = some (.cells #[.int .i64 p, .string ⟨#[]⟩, .int .i64 0, .bool false] 70 (0, 0))) := But.keep HZ1.out hb (by omega)
              clear hb hR hx
              have HY2 : Hid (QS w (x2.setCell ⟨x1.heap.size, 1, none⟩ (.string t)) s q2 w2 (.slice a W.length ka) (.slice b S.length kb) (.slice c R.length kc) W S R) := HQ2.out.set ⟨x1.heap.size, 1, none⟩ _ hnb HO1.out HO2.out HO3.out
              have HZ2 : Hid ((x2.setCell ⟨x1.heap.size, 1, none⟩ (.string t)).heap[x1.heap.size]? = some (.cells #[.int .i64 p, .string t, .int .i64 0, .bool false] 70 (0, 0))) := heap_set HW2.out 1 (.string t)
              have m1 : x2.cell? ⟨x1.heap.size, 1, none⟩ = some (.string ⟨#[]⟩) := cell_of_row _ _ 1 _ _ _ HW2.out
              have n1 : x2.frozen? ⟨x1.heap.size, 1, none⟩ = false := frozen_of_row _ _ _ _ _ HW2.out
              go_wp2_with fail
              refine (qNum_any _ s q2 w2 _ HY2.out.hr hs).mono ?_
              rintro e x3 ⟨hb, r, q3, w3, rfl, hR, hx⟩
              have HQ3 : Hid (QS w x3 s q3 w3 (.slice a W.length ka) (.slice b S.length kb) (.slice c R.length kc) W S R) := HY2.out.but hb hR
              have HX3 : Hid (_ ∨ _) := hx
              have HW3 : Hid (x3.heap[x1.heap.size]? = some (.cells #[.int .i64 p, .string t, .int .i64 0, .bool false] 70 (0, 0))) := But.keep HZ2.out hb (by omega)
              clear hb hR hx
              have HY3 : Hid (QS w (x3.setCell ⟨x1.heap.size, 2, none⟩ (.int .i64 r)) s q3 w3 (.slice a W.length ka) (.slice b S.length kb) (.slice c R.length kc) W S R) := HQ3.out.set ⟨x1.heap.size, 2, none⟩ _ hnb HO1.out HO2.out HO3.out
              have HZ3 : Hid ((x3.setCell ⟨x1.heap.size, 2, none⟩ (.int .i64 r)).heap[x1.heap.size]? = some (.cells #[.int .i64 p, .string t, .int .i64 r, .bool false] 70 (0, 0))) := heap_set HW3.out 2 (.int .i64 r)
              have m2 : x3.cell? ⟨x1.heap.size, 2, none⟩ = some (.int .i64 0) := cell_of_row _ _ 2 _ _ _ HW3.out
              have n2 : x3.frozen? ⟨x1.heap.size, 2, none⟩ = false := frozen_of_row _ _ _ _ _ HW3.out
              go_wp2_with fail
              refine (qNum_any _ s q3 w3 _ HY3.out.hr hs).mono ?_
              rintro e x4 ⟨hb, g, q4, w4, rfl, hR, hx⟩
              have HQ4 : Hid (QS w x4 s q4 w4 (.slice a W.length ka) (.slice b S.length kb) (.slice c R.length kc) W S R) := HY3.out.but hb hR
              have HX4 : Hid (_ ∨ _) := hx
              have HW4 : Hid (x4.heap[x1.heap.size]? = some (.cells #[.int .i64 p, .string t, .int .i64 r, .bool false] 70 (0, 0))) := But.keep HZ3.out hb (by omega)
              clear hb hR hx
              have HY4 : Hid (QS w (x4.setCell ⟨x1.heap.size, 3, none⟩ (.bool (g == 1))) s q4 w4 (.slice a W.length ka) (.slice b S.length kb) (.slice c R.length kc) W S R) := HQ4.out.set ⟨x1.heap.size, 3, none⟩ _ hnb HO1.out HO2.out HO3.out
              have HZ4 : Hid ((x4.setCell ⟨x1.heap.size, 3, none⟩ (.bool (g == 1))).heap[x1.heap.size]? = some (.cells #[.int .i64 p, .string t, .int .i64 r, .bool (g == 1)] 70 (0, 0))) := heap_set HW4.out 3 (.bool (g == 1))
              have m3 : x4.cell? ⟨x1.heap.size, 3, none⟩ = some (.bool false) := cell_of_row _ _ 3 _ _ _ HW4.out
              have n3 : x4.frozen? ⟨x1.heap.size, 3, none⟩ = false := frozen_of_row _ _ _ _ _ HW4.out
              have HXE : Hid ((w4 = false ∧ unlessB false (sRef s qb) = some ((p, t, r, g == 1), q4)) ∨ (w4 = true ∧ unlessB false (sRef s qb) = none)) := by
                show _ ∨ _
                unfold sRef
                have h3 := seq_step (f := pN s) (g := sF s) HX3.out (sF_of HX4.out)
                rw [← unless_bind] at h3
                have h2 := seq_step (f := pT s) (g := seqP (pN s) (sF s)) HX2.out h3
                rw [← unless_bind] at h2
                have h1 := seq_step (f := pN s) (g := seqP (pT s) (seqP (pN s) (sF s))) HX1.out h2
                rw [← unless_bind] at h1
                exact h1
              have HME : Hid (MidS (sRef s) (unlessB bada (sRow s (sRef s) qa)) (k - 1) (R ++ [(p, t, r, g == 1)]) q4 w4) := HM.out.step hs hlo hhi (advRs s) hk HXE.out
              obtain ⟨u0, u1, u2, u3⟩ := cells4L HZ4.out
              have v1 : (x4.setCell ⟨x1.heap.size, 3, none⟩ (.bool (g == 1))).cell? ⟨w.heap.size + 1 + 1, 2, none⟩ = some (.slice c R.length kc) := cell_of_row _ _ 2 _ _ _ HY4.out.hg
              have hsy := HY4.out.size
              go_wp2_with (at_builtin; refine wpList_append_lies _ rfl (.tmp 91) (.tmp 93) 32 rfl (w.heap.size + 3) 70 l0 (.agg #[.int .i64 0, .string ⟨#[]⟩, .int .i64 0, .bool false]) 4 40 Try.underlying32 hl hx0 hx1 hx2 rfl (by decide) _ R.length (R.flatMap refC) rfl (HY4.out.ho.rs.alloc _) ⟨x4.heap.size, 0, none⟩ 1 1 (refC (p, t, r, g == 1)) rfl rfl (newsY (set_size _ _ _) _ _) (ref_one _) (by omega) (by unfold maxLen; omega) (by omega) (Nat.le_trans hsy (by simp)) _ rfl ?_; intro gg cap2 z hown1 hgrow hat hlt2; have HKz : Hid (∀ k, k < (x4.setCell ⟨x1.heap.size, 3, none⟩ (.bool (g == 1))).heap.size → some k ≠ (Value.slice c R.length kc).ownBlock → z.heap[k]? = (x4.setCell ⟨x1.heap.size, 3, none⟩ (.bool (g == 1))).heap[k]?) := fun k hk hne => (hgrow.block k (Nat.lt_of_lt_of_le hk (by simp)) hne).trans (Go.heap_alloc_old (x4.setCell ⟨x1.heap.size, 3, none⟩ (.bool (g == 1))) _ hk); have hG : z.heap[w.heap.size + 1 + 1]? = some (.cells #[.slice a W.length ka, .slice b S.length kb, .slice c R.length kc] 34 (0, 0)) := (HKz.out _ (by omega) (fun e => absurd (HY4.out.ho.rs.blk _ e.symm).1 (by omega))).trans HY4.out.hg; have k1 := cell_of_row _ _ 2 _ _ _ hG; have k2 : z.frozen? ⟨w.heap.size + 1 + 1, 2, none⟩ = false := frozen_of_row _ _ _ _ _ hG; clear hG)
              have HQz : Hid (QS w (z.setCell ⟨w.heap.size + 2, 2, none⟩ (.slice (some ⟨gg, 0, none⟩) (R.length + 1) cap2)) s q4 w4 _ _ _ _ _ _) := QS.app3 HY4.out (H := ((x4.setCell ⟨x1.heap.size, 3, none⟩ (.bool (g == 1))).alloc (.cells (refC (p, t, r, g == 1)).toArray 70)).heap.size) (by simp) (OwnX.more hown1) HKz.out (Nat.le_trans (by simp) hgrow.size) hgrow.os hgrow.tape hgrow.output hat
              clear hown1 hgrow hat k1 k2 v1 u0 u1 u2 u3
              go_wp2
              go_roundw
              case rel => exact ⟨k - 1, _, R ++ [(p, t, r, g == 1)], q4, w4, by go_num, fun _ => by omega, HQz.out, HME.out⟩
              case measure => simp [intOf]; omega
        · obtain ⟨hk, rfl⟩ : 0 < k ∧ bada = false := by simpa using hgo
          have hlo := HQ.out.hr.lo
          have hhi := HQ.out.hr.hi
          have hWl := HM.out.2.2
          have hsz := HQ.out.size
          have hk1 := HK.out rfl
          clear hgo g0 g1 g2 d0 d1 d2
          go_wp2_with fail
          refine (qText_any _ s qa false wc HQ.out.hr hs).mono ?_
          rintro e x1 ⟨hb, t, q1, w1, rfl, hR, hx⟩
          have HQ1 : Hid (QS w x1 s q1 w1 (.slice a W.length ka) (.slice b S.length kb) nilS W S []) := HQ.out.but hb hR
          have HX1 : Hid (_ ∨ _) := hx
          clear hb hR hx
          have HY1 : Hid (QS w (x1.alloc (.cells #[.string t, .int .i64 0, .bool false] 65)) s q1 w1 (.slice a W.length ka) (.slice b S.length kb) nilS W S []) := HQ1.out.call (below_new _ _)
          have HZ1 : Hid ((x1.alloc (.cells #[.string t, .int .i64 0, .bool false] 65)).heap[x1.heap.size]? = some (.cells #[.string t, .int .i64 0, .bool false] 65 (0, 0))) := heap_alloc_new _ _
          have hnb : w.heap.size + 3 ≤ x1.heap.size := HQ1.out.size
          have hoa : ∀ v : Value, (∀ q, v.ownBlock = some q → q < x1.heap.size) → v.ownBlock ≠ some x1.heap.size := fun v h e => absurd (h _ e) (by omega)
          have ho1 := hoa _ (fun q e => (HQ1.out.ho.ws.blk q e).2)
          have ho2 := hoa _ (fun q e => (HQ1.out.ho.ss.blk q e).2)
          have ho3 := hoa _ (fun q e => (HQ1.out.ho.rs.blk q e).2)
          have HO1 : Hid (Value.ownBlock _ ≠ some x1.heap.size) := ho1
          have HO2 : Hid (Value.ownBlock _ ≠ some x1.heap.size) := ho2
          have HO3 : Hid (Value.ownBlock _ ≠ some x1.heap.size) := ho3
          clear hoa ho1 ho2 ho3
          go_wp2_with fail
          refine (qNum_any _ s q1 w1 _ HY1.out.hr hs).mono ?_
          rintro e x2 ⟨hb, p, q2, w2, rfl, hR, hx⟩
          have HQ2 : Hid (QS w x2 s q2 w2 (.slice a W.length ka) (.slice b S.length kb) nilS W S []) := HY1.out.but hb hR
          have HX2 : Hid (_ ∨ _) := hx
          have HW2 : Hid (x2.heap[x1.heap.size]? = some (.cells #[.string t, .int .i64 0, .bool false] 65 (0, 0))) := But.keep HZ1.out hb (by omega)
          clear hb hR hx
          have HY2 : Hid (QS w (x2.setCell ⟨x1.heap.size, 1, none⟩ (.int .i64 p)) s q2 w2 (.slice a W.length ka) (.slice b S.length kb) nilS W S []) := HQ2.out.set ⟨x1.heap.size, 1, none⟩ _ hnb HO1.out HO2.out HO3.out
          have HZ2 : Hid ((x2.setCell ⟨x1.heap.size, 1, none⟩ (.int .i64 p)).heap[x1.heap.size]? = some (.cells #[.string t, .int .i64 p, .bool false] 65 (0, 0))) := heap_set HW2.out 1 (.int .i64 p)
          have m1 : x2.cell? ⟨x1.heap.size, 1, none⟩ = some (.int .i64 0) := cell_of_row _ _ 1 _ _ _ HW2.out
          have n1 : x2.frozen? ⟨x1.heap.size, 1, none⟩ = false := frozen_of_row _ _ _ _ _ HW2.out
          go_wp2_with fail
          refine (qNum_any _ s q2 w2 _ HY2.out.hr hs).mono ?_
          rintro e x3 ⟨hb, g, q3, w3, rfl, hR, hx⟩
          have HQ3 : Hid (QS w x3 s q3 w3 (.slice a W.length ka) (.slice b S.length kb) nilS W S []) := HY2.out.but hb hR
          have HX3 : Hid (_ ∨ _) := hx
          have HW3 : Hid (x3.heap[x1.heap.size]? = some (.cells #[.string t, .int .i64 p, .bool false] 65 (0, 0))) := But.keep HZ2.out hb (by omega)
          clear hb hR hx
          have HY3 : Hid (QS w (x3.setCell ⟨x1.heap.size, 2, none⟩ (.bool (g == 1))) s q3 w3 (.slice a W.length ka) (.slice b S.length kb) nilS W S []) := HQ3.out.set ⟨x1.heap.size, 2, none⟩ _ hnb HO1.out HO2.out HO3.out
          have HZ3 : Hid ((x3.setCell ⟨x1.heap.size, 2, none⟩ (.bool (g == 1))).heap[x1.heap.size]? = some (.cells #[.string t, .int .i64 p, .bool (g == 1)] 65 (0, 0))) := heap_set HW3.out 2 (.bool (g == 1))
          have m2 : x3.cell? ⟨x1.heap.size, 2, none⟩ = some (.bool false) := cell_of_row _ _ 2 _ _ _ HW3.out
          have n2 : x3.frozen? ⟨x1.heap.size, 2, none⟩ = false := frozen_of_row _ _ _ _ _ HW3.out
          have HXE : Hid ((w3 = false ∧ unlessB false (sSym s qa) = some ((t, p, g == 1), q3)) ∨ (w3 = true ∧ unlessB false (sSym s qa) = none)) := by
            show _ ∨ _
            unfold sSym
            have h2 := seq_step (f := pN s) (g := sF s) HX2.out (sF_of HX3.out)
            rw [← unless_bind] at h2
            have h1 := seq_step (f := pT s) (g := seqP (pN s) (sF s)) HX1.out h2
            rw [← unless_bind] at h1
            exact h1
          have HME : Hid (MidS (sSym s) (unlessB bad (sRow s (sSym s) q)) (k - 1) (S ++ [(t, p, g == 1)]) q3 w3) := HM.out.step hs hlo hhi (advSs s) hk HXE.out
          obtain ⟨u0, u1, u2⟩ := cells3L HZ3.out
          have v1 : (x3.setCell ⟨x1.heap.size, 2, none⟩ (.bool (g == 1))).cell? ⟨w.heap.size + 1 + 1, 1, none⟩ = some (.slice b S.length kb) := cell_of_row _ _ 1 _ _ _ HY3.out.hg
          have hsy := HY3.out.size
          go_wp2_with (at_builtin; refine wpList_append_lies _ rfl (.tmp 59) (.tmp 61) 31 rfl (w.heap.size + 3) 65 j0 (.agg #[.string ⟨#[]⟩, .int .i64 0, .bool false]) 3 32 Try.underlying31 hj hy0 hy1 hy2 rfl (by decide) _ S.length (S.flatMap symC) rfl (HY3.out.ho.ss.alloc _) ⟨x3.heap.size, 0, none⟩ 1 1 (symC (t, p, g == 1)) rfl rfl (newsY (set_size _ _ _) _ _) (sym_one _) (by omega) (by unfold maxLen; omega) (by omega) (Nat.le_trans hsy (by simp)) _ rfl ?_; intro gg cap2 z hown1 hgrow hat hlt2; have HKz : Hid (∀ k, k < (x3.setCell ⟨x1.heap.size, 2, none⟩ (.bool (g == 1))).heap.size → some k ≠ (Value.slice b S.length kb).ownBlock → z.heap[k]? = (x3.setCell ⟨x1.heap.size, 2, none⟩ (.bool (g == 1))).heap[k]?) := fun k hk hne => (hgrow.block k (Nat.lt_of_lt_of_le hk (by simp)) hne).trans (Go.heap_alloc_old (x3.setCell ⟨x1.heap.size, 2, none⟩ (.bool (g == 1))) _ hk); have hG : z.heap[w.heap.size + 1 + 1]? = some (.cells #[.slice a W.length ka, .slice b S.length kb, nilS] 34 (0, 0)) := (HKz.out _ (by omega) (fun e => absurd (HY3.out.ho.ss.blk _ e.symm).1 (by omega))).trans HY3.out.hg; have k1 := cell_of_row _ _ 1 _ _ _ hG; have k2 : z.frozen? ⟨w.heap.size + 1 + 1, 1, none⟩ = false := frozen_of_row _ _ _ _ _ hG; clear hG)
          have HQz : Hid (QS w (z.setCell ⟨w.heap.size + 2, 1, none⟩ (.slice (some ⟨gg, 0, none⟩) (S.length + 1) cap2)) s q3 w3 _ _ _ _ _ _) := QS.app2 HY3.out (H := ((x3.setCell ⟨x1.heap.size, 2, none⟩ (.bool (g == 1))).alloc (.cells (symC (t, p, g == 1)).toArray 65)).heap.size) (by simp) (OwnX.more hown1) HKz.out (Nat.le_trans (by simp) hgrow.size) hgrow.os hgrow.tape hgrow.output hat
          clear hown1 hgrow hat k1 k2 v1 u0 u1 u2
          go_wp2
          go_roundw
          case rel => exact ⟨k - 1, _, S ++ [(t, p, g == 1)], q3, w3, by go_num, fun _ => by omega, HQz.out, HME.out⟩
          case measure => simp [intOf]; omega
    · obtain ⟨hk, rfl⟩ : 0 < k ∧ bad = false := by simpa using hgo
      have hlo := HQ.out.hr.lo
      have hhi := HQ.out.hr.hi
      have hWl := HM.out.2.2
      have hsz := HQ.out.size
      have hk1 := HK.out rfl
      clear hgo
      go_wp2_with fail
      have g0' : wc.drew.cell? ⟨w.heap.size + 1 + 1, 0, none⟩ = some (.slice a W.length ka) := g0
      go_region_law (first
        | (go_simp; go_at_call 83; refine Calls.mono (qNum_any _ s q false _ (by exact ⟨HQ.out.hr.row, HQ.out.hr.lo, HQ.out.hr.hi⟩) hs) ?_; rintro e x ⟨hb, nn, q2, w2, rfl, hR, hx⟩; have HQx : Hid (QS w x s q2 w2 _ _ _ _ _ _) := HQ.out.but ⟨hb.os, hb.tape, hb.output, hb.size, hb.block⟩ hR; have HX : Hid (_ ∨ _) := hx; have x0 : x.cell? ⟨w.heap.size + 1 + 1, 0, none⟩ = some (.slice a W.length ka) := (cells3L HQx.out.hg).1; have x1 : (x.alloc (.cells #[.int .i64 nn] 2)).cell? ⟨w.heap.size + 1 + 1, 0, none⟩ = some (.slice a W.length ka) := (cells3L (heap_more HQx.out.hg _)).1)
        | (refine step_append_lies _ (by rfl) _ _ _ (by rfl) (w.heap.size + 3) 2 i0 (.int .i64 0) 1 8 Try.underlying24 hi hz0 hz1 hz2 rfl (by omega) _ W.length (W.flatMap intC) (by rfl) (by exact HQx.out.ho.ws.alloc _) ⟨x.heap.size, 0, none⟩ 1 1 (intC nn) (by rfl) (by rfl) (by exact newsX _ _ _) (int_one nn) (by omega) (by unfold maxLen; omega) (by omega) (by have := HQx.out.size; simp; omega) _ rfl ?_; intro gg cap2 z hown1 hgrow hat hlt2; have HKz : Hid (∀ k, k < x.heap.size → some k ≠ (Value.slice a W.length ka).ownBlock → z.heap[k]? = x.heap[k]?) := fun k hk hne => (hgrow.block k (by simp; omega) hne).trans (Go.heap_alloc_old x _ hk); have hG : z.heap[w.heap.size + 1 + 1]? = some (.cells #[.slice a W.length ka, nilS, nilS] 34 (0, 0)) := (HKz.out _ (by have := HQx.out.size; omega) (fun e => absurd (HQx.out.ho.ws.blk _ e.symm).1 (by omega))).trans HQx.out.hg; have k1 := cell_of_row _ _ 0 _ _ _ hG; have k2 : z.frozen? ⟨w.heap.size + 1 + 1, 0, none⟩ = false := frozen_of_row _ _ _ _ _ hG; clear hG))
      all_goals
        have HQz : Hid (QS w (z.setCell ⟨w.heap.size + 2, 0, none⟩ (.slice (some ⟨gg, 0, none⟩) (W.length + 1) cap2)) s q2 w2 _ _ _ _ _ _) := QS.app1 HQx.out (H := (x.alloc (.cells #[.int .i64 nn] 2)).heap.size) (by simp) (OwnX.more hown1) HKz.out (Nat.le_trans (by simp) hgrow.size) hgrow.os hgrow.tape hgrow.output hat
        have HMz : Hid (MidS (pN s) (unlessB false (sRow s (pN s) 0)) (k - 1) (W ++ [nn]) q2 w2) := HM.out.step hs hlo hhi (advN s) hk HX.out
        clear hown1 hgrow hat k1 k2 x0 x1
        go_wp2
        go_roundw
        case rel => exact ⟨k - 1, _, W ++ [nn], q2, w2, by go_num, fun _ => by omega, HQz.out, HMz.out⟩
        case measure => simp [intOf]; omega
end Go.Proofs.Ytcnjeeckkpiilaa
