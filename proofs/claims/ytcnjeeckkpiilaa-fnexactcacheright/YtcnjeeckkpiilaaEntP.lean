/- When a cache is right, by the program; the law's walk. -/
import Derived.Test.YtcnjeeckkpiilaaRows
import Derived.WalkKit
import Derived.WalkSpells
import Derived.WalkLawsBesides
import Derived.Outline
import Derived.Test.YtcnjeeckkpiilaaBase
import Derived.Test.YtcnjeeckkpiilaaRes2
import Derived.Test.YtcnjeeckkpiilaaRowX
import Derived.Test.YtcnjeeckkpiilaaSrcA
import Derived.Test.YtcnjeeckkpiilaaEntA
import Derived.Test.YtcnjeeckkpiilaaEntR
namespace Go.Proofs.Ytcnjeeckkpiilaa
open Go.RowKit
set_option linter.unusedVariables false

set_option maxRecDepth 100000 in
set_option maxHeartbeats 1600000 in
theorem containsEntry_any (k0 : Nat) (caps : Array Value) (p : Src → Bool) (a : Option Addr) (L : List Src) (n cap : Nat) (w : World) (hE : ∀ (args : Array Value) (W : World), (callFunc k0 args).run Try.prog W = .ok (.enter k0 args) W) (hR : RowIs 2 srcC w a L) (hn : L.length = n) (hl : n ≤ 2000000)
    (hM : ∀ (s : Src) (W : World), Below w.heap.size w W → Calls Try.prog k0 (#[.agg #[.string s.1, .string s.2]] ++ caps) W fun e W' => e = .returned (.bool (p s)) ∧ Below W.heap.size W W') :
    Calls Try.prog 58 #[.slice a n cap, .func (.func k0) #[] caps] w fun e w' => e = .returned (.bool (L.any p)) ∧ Below w.heap.size w w' := by
  subst hn
  have HIX := idx_any p L
  obtain ⟨r, hr⟩ : ∃ r, idxE p L = r := ⟨_, rfl⟩
  have HX := indexEntry_any k0 caps p a L cap w hE hR hl hM
  rw [hr] at HIX HX
  have HC : Hid (Calls Try.prog 95 #[.slice a L.length cap, .func (.func k0) #[] caps] w fun e w' => e = .returned (.int .i64 r) ∧ Below w.heap.size w w') := HX
  clear hr HX hE hM hR
  go_enter Try.func58, Try.ntmps58
  go_wp2_with fail
  refine HC.out.mono ?_
  rintro e x2 ⟨rfl, hb⟩
  have HB2 : Hid (Below w.heap.size w x2) := hb
  clear hb HC
  rcases HIX with ⟨hy, h0⟩ | ⟨hy, rfl⟩
  · have HY : Hid (L.any p = true) := hy
    have hg : decide ((0 : Int) ≤ r) = true := decide_eq_true h0
    clear hy
    go_wp2
    go_ret
    exact ⟨ret_bool (by rw [HY.out]), HB2.out⟩
  · have HY : Hid (L.any p = false) := hy
    clear hy
    go_wp2
    go_ret
    exact ⟨ret_bool (by rw [HY.out]), HB2.out⟩
set_option maxRecDepth 100000 in
set_option maxHeartbeats 3200000 in
theorem implCache_any (a : Option Addr) (L : List Src) (cap : Nat) (w : World) (hR : RowIs 2 srcC w a L) (hl : L.length ≤ 2000000) (hs : ∀ s ∈ L, fitsS s) (hcap : L.length ≤ cap) : Calls Try.prog 22 #[.slice a L.length cap] w fun e w' => e = .returned (.bool (cacheB L)) ∧ Below w.heap.size w w' := by
  have HR : Hid (RowIs 2 srcC w a L) := hR
  have HS : Hid (∀ s ∈ L, fitsS s) := hs
  clear hR hs
  by_cases h20 : 8 < L.length
  · have h20' : (8 : Int) < (L.length : Int) := by omega
    go_enter Try.func22, Try.ntmps22
    go_wp2
    go_ret
    exact ⟨ret_bool (cacheB_big h20).symm, Below.refl _ _⟩
  have h20' : ¬ (8 : Int) < (L.length : Int) := by omega
  go_enter Try.func22, Try.ntmps22
  go_wp2
  go_loopw [11] (fun i wr => ∃ k : Nat, k ≤ L.length ∧ i = .int .i64 k ∧ Hid (∀ t, t < k → entOk L t = true) ∧ Hid (Below w.heap.size w wr)) (fun i _ => L.length - (intOf i).toNat)
  case atStart => exact ⟨0, by omega, rfl, fun t h => by omega, Below.refl _ _⟩
  case round =>
    obtain ⟨k, hk, rfl, HF, HB⟩ := hrel
    by_cases hlt : k < L.length
    · have HRW := HR.out.below HB.out
      obtain ⟨x, rfl, hx, hE⟩ := HRW.elem k hlt
      have HRT : Hid (RowIs 2 srcC wr (some x) (L.take k)) := HRW.take k
      have HLT : Hid ((L.take k).length = k) := by show _ = _; simp; omega
      obtain ⟨c0, c1⟩ := ElemAt.two hE
      obtain ⟨m0, m1⟩ := HS.out L[k] (List.getElem_mem hlt)
      have hi0 : (0 : Int) ≤ (k : Int) := by omega
      have hi1 : (k : Int) < (L.length : Int) := by omega
      have HNO : Hid (entOk L k = false → cacheB L = false) := fun h => cacheB_no hlt h
      have HYES : Hid (entOk L k = true → ∀ t, t < k + 1 → entOk L t = true) := fun h => all_uptoE HF.out h
      have HOK : Hid (_ = _) := ent_at hlt
      clear hE HRW
      generalize L[k] = s at *
      obtain ⟨nm, tx⟩ := s
      dsimp only at *
      have HNEW : Hid ((wr.alloc (.cells #[.string nm, .string tx] 93)).heap[wr.heap.size]? = some (.cells #[.string nm, .string tx] 93 (0, 0))) := heap_alloc_new _ _
      go_wp2_with fail
      refine (containsEntry_any 59 #[.pointer (some ⟨wr.heap.size, 0, none⟩)] (keyP nm) (some x) (L.take k) k cap (wr.alloc (.cells #[.string nm, .string tx] 93)) (fun args W => enters_mkE Try.func59 (by kernel_rfl) rfl args W) (HRT.out.alloc _) HLT.out (by omega) (fun s W hW => cache1_any wr.heap.size s nm tx W (heap_keep HNEW.out hW))).mono ?_
      rintro e x2 ⟨rfl, hb⟩
      have HB2 : Hid (Below w.heap.size w x2) := below_call (below_more HB.out _) hb
      obtain ⟨d0, d1⟩ := two_cells (heap_keep HNEW.out hb)
      clear hb c0 c1 HRT HNEW
      cases hy : (L.take k).any (keyP nm)
      · by_cases h16 : nm.size = 16
        · have hg1 : ((nm.size : Int) != 16) = false := by rw [h16]; rfl
          by_cases h8 : tx.size ≤ 8000
          · have hg2 : decide ((8000 : Int) < (tx.size : Int)) = false := decide_eq_false (by omega)
            have HQ : Hid (entOk L k = true) := by show _ = _; rw [HOK.out, decide_eq_true h16, decide_eq_true h8, hy]; rfl
            clear hy h16 h8
            go_wp2
            go_roundw
            case rel => exact ⟨k + 1, by omega, by go_num, HYES.out HQ.out, HB2.out⟩
            case measure => simp [intOf]; omega
          · have hg2 : decide ((8000 : Int) < (tx.size : Int)) = true := decide_eq_true (by omega)
            have HQ : Hid (entOk L k = false) := by show _ = _; rw [HOK.out, decide_eq_false h8]; simp
            clear hy h16 h8
            go_wp2
            go_ret
            exact ⟨ret_bool (HNO.out HQ.out).symm, HB2.out⟩
        · have hg1 : ((nm.size : Int) != 16) = true := by rw [bne_iff_ne]; omega
          have HQ : Hid (entOk L k = false) := by show _ = _; rw [HOK.out, decide_eq_false h16]; rfl
          clear hy h16
          go_wp2
          go_ret
          exact ⟨ret_bool (HNO.out HQ.out).symm, HB2.out⟩
      · have HQ : Hid (entOk L k = false) := by show _ = _; rw [HOK.out, hy]; simp
        clear hy
        go_wp2
        go_ret
        exact ⟨ret_bool (HNO.out HQ.out).symm, HB2.out⟩
    · go_wp2
      go_ret
      exact ⟨ret_bool (cacheB_yes (by omega) (fun t ht => HF.out t (by omega))).symm, HB.out⟩
end Go.Proofs.Ytcnjeeckkpiilaa
