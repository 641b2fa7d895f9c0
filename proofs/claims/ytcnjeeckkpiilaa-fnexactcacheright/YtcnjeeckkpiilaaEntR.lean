/- When a cache is right: closed forms, by the specification and by the program. -/
import Derived.Test.YtcnjeeckkpiilaaRows
import Derived.WalkKit
import Derived.WalkSpells
import Derived.WalkLawsBesides
import Derived.Outline
import Derived.RegionTactic
import Derived.BigRegion
import Derived.Deep.QuietTactic
import Derived.BigQuiet
import Derived.Deep.RegionHeld3
import Derived.Test.YtcnjeeckkpiilaaBase
import Derived.Test.YtcnjeeckkpiilaaRes2
import Derived.Test.YtcnjeeckkpiilaaIsa2
import Derived.Test.YtcnjeeckkpiilaaIsa3
import Derived.Test.YtcnjeeckkpiilaaRowX
import Derived.Test.YtcnjeeckkpiilaaOwnS
import Derived.Test.YtcnjeeckkpiilaaSrcA
namespace Go.Proofs.Ytcnjeeckkpiilaa
open Go.RowKit
set_option linter.unusedVariables false

theorem enters_mkE {k : Nat} {fn : Func} {c : Code} (hf : Try.prog.funcs[k]? = some fn) (hname : (fn.name == "runtime.NumGoroutine") = false) (hb : fn.body = some c) (args : Array Value) (W : World) : (callFunc k args).run Try.prog W = .ok (.enter k args) W := by
  have h1 : fn.name ≠ "runtime.NumGoroutine" := by simpa using hname
  simp [callFunc, hf, h1, hb, mark]
def keyP (key : ByteArray) (s : Src) : Bool := decide (s.1 = key)
def idxE (p : Src → Bool) (L : List Src) : Int := if L.findIdx p < L.length then (L.findIdx p : Int) else -1
theorem idx_at {p : Src → Bool} {L : List Src} {k : Nat} (hk : k < L.length) (h : ∀ t (h : t < L.length), t < k → p L[t] = false) (hp : p L[k] = true) : idxE p L = (k : Int) := by
  have e : L.findIdx p = k := (List.findIdx_eq hk).2 ⟨hp, fun t ht => h t (by omega) ht⟩
  unfold idxE
  rw [e, if_pos hk]
theorem idx_none {p : Src → Bool} {L : List Src} (h : ∀ t (h : t < L.length), p L[t] = false) : idxE p L = -1 := by
  have e : L.findIdx p = L.length := List.findIdx_eq_length.2 (fun x hx => by
    obtain ⟨t, ht, rfl⟩ := List.getElem_of_mem hx
    exact h t ht)
  unfold idxE
  rw [e, if_neg (by omega)]
theorem idx_any (p : Src → Bool) (L : List Src) : (L.any p = true ∧ 0 ≤ idxE p L) ∨ (L.any p = false ∧ idxE p L = -1) := by
  cases h : L.any p
  · exact .inr ⟨rfl, idx_none (fun t ht => by
      have h1 := List.any_eq_false.1 h L[t] (List.getElem_mem ht)
      simpa using h1)⟩
  · refine .inl ⟨rfl, ?_⟩
    obtain ⟨x, hx, hp⟩ := List.any_eq_true.1 h
    have := List.findIdx_lt_length_of_exists ⟨x, hx, hp⟩
    unfold idxE
    rw [if_pos this]
    omega
def entOk (L : List Src) (k : Nat) : Bool := match L[k]? with | none => true | some e => decide (e.1.size = 16) && (decide (e.2.size ≤ 8000) && !(L.take k).any (keyP e.1))
def cacheB (L : List Src) : Bool := decide (L.length ≤ 8 ∧ ∀ k, k < L.length → entOk L k = true)
theorem cacheB_big {L : List Src} (h : 8 < L.length) : cacheB L = false := decide_eq_false (fun k => by omega)
theorem cacheB_no {L : List Src} {k : Nat} (hk : k < L.length) (h : entOk L k = false) : cacheB L = false := decide_eq_false (fun x => by rw [x.2 k hk] at h; cases h)
theorem cacheB_yes {L : List Src} (h : L.length ≤ 8) (h2 : ∀ k, k < L.length → entOk L k = true) : cacheB L = true := decide_eq_true ⟨h, h2⟩
theorem ent_at {L : List Src} {k : Nat} (h : k < L.length) : entOk L k = (decide (L[k].1.size = 16) && (decide (L[k].2.size ≤ 8000) && !(L.take k).any (keyP L[k].1))) := by
  unfold entOk
  rw [List.getElem?_eq_getElem h]
theorem all_uptoE {f : Nat → Bool} {k : Nat} (h : ∀ t, t < k → f t = true) (hk : f k = true) : ∀ t, t < k + 1 → f t = true := fun t ht => by
  by_cases e : t = k
  · subst e; exact hk
  · exact h t (by omega)
theorem RowIs.take {n : Nat} {α : Type} {c : α → List Value} {w : World} {a : Option Addr} {L : List α} (h : RowIs n c w a L) (k : Nat) : RowIs n c w a (L.take k) := fun hl => by
  obtain ⟨x, hx, hb, hc⟩ := h (by simp at hl; omega)
  refine ⟨x, hx, hb, fun i hi j hj => ?_⟩
  have := hc i (by simp at hi; omega) j (by simpa using hj)
  simpa using this
set_option maxRecDepth 100000 in
set_option maxHeartbeats 1600000 in
theorem l07Entry_any (a : Option Addr) (L : List Src) (cap : Nat) (key : ByteArray) (w : World) (hR : RowIs 2 srcC w a L) (hl : L.length ≤ 2000000) :
    Calls Try.prog 56 #[.slice a L.length cap, .string key] w fun e w' => e = .returned (.int .i64 (idxE (keyP key) L)) ∧ w' = w := by
  have HR : Hid (RowIs 2 srcC w a L) := hR
  clear hR
  go_enter Try.func56, Try.ntmps56
  go_wp2
  go_loop [5] (fun i => ∃ k : Nat, k ≤ L.length ∧ i = .int .i64 k ∧ Hid (∀ t (h : t < L.length), t < k → keyP key L[t] = false)) (fun i => L.length - (intOf i).toNat)
  case atStart => exact ⟨0, by omega, rfl, fun t h h2 => by omega⟩
  case round =>
    obtain ⟨k, hk, rfl, HF⟩ := hrel
    by_cases hlt : k < L.length
    · obtain ⟨x, rfl, hx, hE⟩ := HR.out.elem k hlt
      obtain ⟨c0, c1⟩ := ElemAt.two hE
      have HFN : Hid (keyP key L[k] = false → ∀ t (h : t < L.length), t < k + 1 → keyP key L[t] = false) := fun hk2 t h h2 => by
        by_cases e : t = k
        · subst e; exact hk2
        · exact HF.out t h (by omega)
      have HYES : Hid (keyP key L[k] = true → idxE (keyP key) L = (k : Int)) := fun h => idx_at hlt HF.out h
      clear hE c1
      have HKP : Hid (keyP key L[k] = decide (L[k].1 = key)) := rfl
      generalize L[k] = s at *
      generalize s.1 = nm at *
      have hi0 : (0 : Int) ≤ (k : Int) := by omega
      have hi1 : (k : Int) < (L.length : Int) := by omega
      by_cases hnk : nm = key
      · have h1 : (nm.toList == key.toList) = true := by rw [hnk]; simp
        have HQ : Hid (idxE (keyP key) L = (k : Int)) := HYES.out (by rw [HKP.out]; exact decide_eq_true hnk)
        clear hnk
        go_wp2
        go_ret
        exact ⟨ret_int HQ.out.symm, rfl⟩
      · have h1 : (nm.toList == key.toList) = false := textS_ne hnk
        have HQ : Hid (keyP key s = false) := by show _ = _; rw [HKP.out]; exact decide_eq_false hnk
        clear hnk
        go_wp2
        exact ⟨⟨k + 1, by omega, by go_num, HFN.out HQ.out⟩, by simp [intOf]; omega⟩
    · obtain rfl : k = L.length := by omega
      have HQ : Hid (idxE (keyP key) L = -1) := idx_none (fun t ht => HF.out t ht ht)
      go_wp2
      go_ret
      exact ⟨ret_int HQ.out.symm, rfl⟩
theorem l07Entry_is {a : Option Addr} {L : List Src} {n cap : Nat} {key : ByteArray} {r : Int} (w : World) (hR : RowIs 2 srcC w a L) (hn : L.length = n) (hl : n ≤ 2000000) (h : idxE (keyP key) L = r) :
    Calls Try.prog 56 #[.slice a n cap, .string key] w fun e w' => e = .returned (.int .i64 r) ∧ w' = w := by
  subst hn h; exact l07Entry_any a L cap key w hR hl
set_option maxRecDepth 100000 in
set_option maxHeartbeats 3200000 in
theorem specCache_any (a : Option Addr) (L : List Src) (cap : Nat) (w : World) (hR : RowIs 2 srcC w a L) (hl : L.length ≤ 2000000) (hs : ∀ s ∈ L, fitsS s) (hcap : L.length ≤ cap) : Calls Try.prog 20 #[.slice a L.length cap] w fun e w' => e = .returned (.bool (cacheB L)) ∧ Below w.heap.size w w' := by
  have HR : Hid (RowIs 2 srcC w a L) := hR
  have HS : Hid (∀ s ∈ L, fitsS s) := hs
  clear hR hs
  by_cases h20 : 8 < L.length
  · have h20' : (8 : Int) < (L.length : Int) := by omega
    go_enter Try.func20, Try.ntmps20
    go_wp2
    go_ret
    exact ⟨ret_bool (cacheB_big h20).symm, Below.refl _ _⟩
  have h20' : ¬ (8 : Int) < (L.length : Int) := by omega
  go_enter Try.func20, Try.ntmps20
  go_wp2
  go_loopw [3] (fun i wr => ∃ k : Nat, k ≤ L.length ∧ i = .int .i64 k ∧ Hid (∀ t, t < k → entOk L t = true) ∧ Hid (Below w.heap.size w wr)) (fun i _ => L.length - (intOf i).toNat)
  case atStart => exact ⟨0, by omega, rfl, fun t h => by omega, Below.refl _ _⟩
  case round =>
    obtain ⟨k, hk, rfl, HF, HB⟩ := hrel
    by_cases hlt : k < L.length
    · have HRW := HR.out.below HB.out
      obtain ⟨x, rfl, hx, hE⟩ := HRW.elem k hlt
      have HRT : Hid (RowIs 2 srcC wr (some x) (L.take k)) := HRW.take k
      have HLT : Hid ((L.take k).length = k) := by show _ = _; simp; omega
      obtain ⟨c0, c1⟩ := ElemAt.two hE
      obtain ⟨m0, m1⟩ := HS.out L[k] (List.getElem_mem hlt)
      have hi0 : (0 : Int) ≤ (k : Int) := by omega
      have hi1 : (k : Int) < (L.length : Int) := by omega
      have HNO : Hid (entOk L k = false → cacheB L = false) := fun h => cacheB_no hlt h
      have HYES : Hid (entOk L k = true → ∀ t, t < k + 1 → entOk L t = true) := fun h => all_uptoE HF.out h
      have HOK : Hid (_ = _) := ent_at hlt
      have HIX := idx_any (keyP L[k].1) (L.take k)
      clear hE HRW
      generalize L[k] = s at *
      obtain ⟨nm, tx⟩ := s
      dsimp only at *
      by_cases h16 : nm.size = 16
      · have hg1 : ((nm.size : Int) != 16) = false := by rw [h16]; rfl
        by_cases h8 : tx.size ≤ 8000
        · have hg2 : decide ((8000 : Int) < (tx.size : Int)) = false := decide_eq_false (by omega)
          obtain ⟨r, hr⟩ : ∃ r, idxE (keyP nm) (L.take k) = r := ⟨_, rfl⟩
          have HX : Hid (idxE (keyP nm) (L.take k) = r) := hr
          rw [hr] at HIX
          have HQ : Hid (entOk L k = !(L.take k).any (keyP nm)) := by show _ = _; rw [HOK.out, decide_eq_true h16, decide_eq_true h8]; simp
          clear hr h16 h8
          rcases HIX with ⟨hy, hr0⟩ | ⟨hy, rfl⟩
          · have HQ2 : Hid (entOk L k = false) := by show _ = _; rw [HQ.out, hy]; rfl
            have hg3 : decide ((0 : Int) ≤ r) = true := decide_eq_true hr0
            clear hy
            go_wp2_with fail
            go_quiet (first | (go_at_call 56; exact Calls.quiet_of_same (l07Entry_is _ HRT.out HLT.out (by omega) HX.out)))
            go_wp2
            go_ret
            exact ⟨ret_bool (HNO.out HQ2.out).symm, below_drewS HB.out _⟩
          · have HQ2 : Hid (entOk L k = true) := by show _ = _; rw [HQ.out, hy]; rfl
            clear hy
            go_wp2_with fail
            go_quiet (first | (go_at_call 56; exact Calls.quiet_of_same (l07Entry_is _ HRT.out HLT.out (by omega) HX.out)))
            go_wp2
            go_roundw
            case rel => exact ⟨k + 1, by omega, by go_num, HYES.out HQ2.out, below_drewS HB.out _⟩
            case measure => simp [intOf]; omega
        · have hg2 : decide ((8000 : Int) < (tx.size : Int)) = true := decide_eq_true (by omega)
          have HQ : Hid (entOk L k = false) := by show _ = _; rw [HOK.out, decide_eq_false h8]; simp
          clear HIX h16 h8
          go_wp2_with fail
          go_quiet (fail)
          go_wp2
          go_ret
          exact ⟨ret_bool (HNO.out HQ.out).symm, below_drewS HB.out _⟩
      · have hg1 : ((nm.size : Int) != 16) = true := by rw [bne_iff_ne]; omega
        have HQ : Hid (entOk L k = false) := by show _ = _; rw [HOK.out, decide_eq_false h16]; rfl
        clear HIX h16
        go_wp2_with fail
        go_quiet (fail)
        go_wp2
        go_ret
        exact ⟨ret_bool (HNO.out HQ.out).symm, below_drewS HB.out _⟩
    · go_wp2
      go_ret
      exact ⟨ret_bool (cacheB_yes (by omega) (fun t ht => HF.out t (by omega))).symm, HB.out⟩
set_option maxRecDepth 100000 in
set_option maxHeartbeats 1600000 in
theorem cache1_any (b : Nat) (s : Src) (nm tx : ByteArray) (w : World) (hc : w.heap[b]? = some (.cells #[.string nm, .string tx] 93 (0, 0))) : Calls Try.prog 59 #[.agg #[.string s.1, .string s.2], .pointer (some ⟨b, 0, none⟩)] w fun e w' => e = .returned (.bool (keyP nm s)) ∧ Below w.heap.size w w' := by
  obtain ⟨k2, t2⟩ := s
  have HC : Hid (_ = _) := heap_more hc (.cells #[.string k2, .string t2] 93)
  obtain ⟨c0, c1⟩ := two_cells HC.out
  clear c1
  by_cases hpm : k2 = nm
  · have h1 : (k2.toList == nm.toList) = true := by rw [hpm]; simp
    have HD : Hid (keyP nm (k2, t2) = true) := decide_eq_true hpm
    clear hpm
    go_enter Try.func59, Try.ntmps59
    go_wp2
    go_ret
    exact ⟨ret_bool HD.out.symm, below_new _ _⟩
  · have h1 : (k2.toList == nm.toList) = false := textS_ne hpm
    have HD : Hid (keyP nm (k2, t2) = false) := decide_eq_false hpm
    clear hpm
    go_enter Try.func59, Try.ntmps59
    go_wp2
    go_ret
    exact ⟨ret_bool HD.out.symm, below_new _ _⟩
set_option maxRecDepth 100000 in
set_option maxHeartbeats 1600000 in
theorem indexEntry_any (k0 : Nat) (caps : Array Value) (p : Src → Bool) (a : Option Addr) (L : List Src) (cap : Nat) (w : World) (hE : ∀ (args : Array Value) (W : World), (callFunc k0 args).run Try.prog W = .ok (.enter k0 args) W) (hR : RowIs 2 srcC w a L) (hl : L.length ≤ 2000000)
    (hM : ∀ (s : Src) (W : World), Below w.heap.size w W → Calls Try.prog k0 (#[.agg #[.string s.1, .string s.2]] ++ caps) W fun e W' => e = .returned (.bool (p s)) ∧ Below W.heap.size W W') :
    Calls Try.prog 95 #[.slice a L.length cap, .func (.func k0) #[] caps] w fun e w' => e = .returned (.int .i64 (idxE p L)) ∧ Below w.heap.size w w' := by
  have HR : Hid (RowIs 2 srcC w a L) := hR
  have HM : Hid (∀ (s : Src) (W : World), Below w.heap.size w W → Calls Try.prog k0 (#[.agg #[.string s.1, .string s.2]] ++ caps) W fun e W' => e = .returned (.bool (p s)) ∧ Below W.heap.size W W') := hM
  clear hR hM
  go_enter Try.func95, Try.ntmps95
  go_wp2
  go_loopw [8] (fun i wr => ∃ k : Nat, k ≤ L.length ∧ i = .int .i64 k ∧ Hid (∀ t (h : t < L.length), t < k → p L[t] = false) ∧ Hid (Below w.heap.size w wr)) (fun i _ => L.length - (intOf i).toNat)
  case atStart => exact ⟨0, by omega, rfl, fun t h h2 => by omega, Below.refl _ _⟩
  case round =>
    obtain ⟨k, hk, rfl, HF, HB⟩ := hrel
    by_cases hlt : k < L.length
    · obtain ⟨x, rfl, hx, hE2⟩ := (HR.out.below HB.out).elem k hlt
      obtain ⟨c0, c1⟩ := ElemAt.two hE2
      have HFN : Hid (p L[k] = false → ∀ t (h : t < L.length), t < k + 1 → p L[t] = false) := fun hk2 t h h2 => by
        by_cases e : t = k
        · subst e; exact hk2
        · exact HF.out t h (by omega)
      have HYES : Hid (p L[k] = true → idxE p L = (k : Int)) := fun h => idx_at hlt HF.out h
      clear hE2
      generalize L[k] = s at *
      have HMK := HM.out s wr HB.out
      obtain ⟨nm, tx⟩ := s
      dsimp only at *
      have HMH : Hid (Calls Try.prog k0 (#[.agg #[.string nm, .string tx]] ++ caps) wr fun e W' => e = .returned (.bool (p (nm, tx))) ∧ Below wr.heap.size wr W') := HMK
      clear HMK
      have hi0 : (0 : Int) ≤ (k : Int) := by omega
      have hi1 : (k : Int) < (L.length : Int) := by omega
      go_wp2_with fail
      refine HMH.out.mono ?_
      rintro e x2 ⟨rfl, hb⟩
      have HB2 : Hid (Below w.heap.size w x2) := below_call HB.out hb
      clear hb c0 c1 HMH
      cases hp : p (nm, tx)
      · have HP : Hid (∀ t (h : t < L.length), t < k + 1 → p L[t] = false) := HFN.out hp
        go_wp2
        go_roundw
        case rel => exact ⟨k + 1, by omega, by go_num, HP.out, HB2.out⟩
        case measure => simp [intOf]; omega
      · have HQ : Hid (_ = _) := HYES.out hp
        go_wp2
        go_ret
        exact ⟨ret_int HQ.out.symm, HB2.out⟩
    · obtain rfl : k = L.length := by omega
      have HQ : Hid (idxE p L = -1) := idx_none (fun t ht => HF.out t ht ht)
      go_wp2
      go_ret
      exact ⟨ret_int HQ.out.symm, HB.out⟩
end Go.Proofs.Ytcnjeeckkpiilaa
