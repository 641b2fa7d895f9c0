/- Rows of numbers, Syms and Refs as bytes, by the specification. -/
import Derived.Test.YtcnjeeckkpiilaaRows
import Derived.WalkKit
import Derived.WalkSpells
import Derived.WalkLawsBesides
import Derived.Outline
import Derived.RegionTactic
import Derived.BigRegion
import Derived.Deep.RegionHeld3
import Derived.Test.YtcnjeeckkpiilaaBun0
import Derived.Test.YtcnjeeckkpiilaaBun1
import Derived.Test.YtcnjeeckkpiilaaOwnX
import Derived.Test.YtcnjeeckkpiilaaBun9
import Derived.Test.YtcnjeeckkpiilaaBun3
import Derived.Test.YtcnjeeckkpiilaaRowXX
import Derived.Test.YtcnjeeckkpiilaaPutNumX
import Derived.Test.YtcnjeeckkpiilaaBun22
import Derived.Test.YtcnjeeckkpiilaaSymAX
import Derived.Test.YtcnjeeckkpiilaaRefAX
import Derived.Test.YtcnjeeckkpiilaaLayPX
import Derived.Test.YtcnjeeckkpiilaaLayQX
import Derived.Test.YtcnjeeckkpiilaaObjSX
namespace Go.Proofs.Ytcnjeeckkpiilaa
open Go.RowKit
set_option linter.unusedVariables false

theorem specNum_any (n : Int) (w : World) (h0 : -9223372036854775808 ≤ n) (h1 : n ≤ 9223372036854775807) :
    Calls Try.prog 67 #[.int .i64 n] w fun e w' => e = .returned (.string (numT n)) ∧ Below w.heap.size w w' := specPutNum_any n w h0 h1
theorem l07Bool_any (b : Bool) (w : World) : Calls Try.prog 69 #[.bool b] w fun e w' => e = .returned (.string (flagT b)) ∧ Below w.heap.size w w' := by
  cases b
  · go_enter Try.func69, Try.ntmps69
    go_wp2_with fail
    refine (specPutNum_any 0 _ (by omega) (by omega)).mono ?_
    rintro e x ⟨rfl, hb⟩
    go_wp2
    go_ret
    exact ⟨rfl, hb⟩
  · go_enter Try.func69, Try.ntmps69
    go_wp2_with fail
    refine (specPutNum_any 1 _ (by omega) (by omega)).mono ?_
    rintro e x ⟨rfl, hb⟩
    go_wp2
    go_ret
    exact ⟨rfl, hb⟩
theorem addX (a b : ByteArray) (ha : a.size ≤ 400000000) (hb : b.size ≤ 1000) (W : World) : (Op.stringOp .add a b).run Try.prog W = .ok (.string (a ++ b)) W := run_string_add_sum W a b (by omega)
/- The text as far as a row was laid. -/
def preL {α : Type} (f : α → ByteArray) (t0 : ByteArray) (L : List α) (k : Nat) : ByteArray := t0 ++ catL ((L.take k).map f)
theorem preL_zero {α : Type} (f : α → ByteArray) (t0 : ByteArray) (L : List α) : preL f t0 L 0 = t0 := by simp [preL, catL]
theorem preL_succ {α : Type} (f : α → ByteArray) (t0 : ByteArray) (L : List α) (k : Nat) (h : k < L.length) : preL f t0 L (k + 1) = preL f t0 L k ++ f L[k] := by
  unfold preL
  rw [take_map_succ f L k h, catL_append, ← ByteArray.append_assoc]
  simp [catL]
theorem preL_all {α : Type} (f : α → ByteArray) (t0 : ByteArray) (L : List α) : preL f t0 L L.length = t0 ++ catL (L.map f) := by unfold preL; rw [List.take_length]
theorem sym_cat (t : ByteArray) (s : symE) : t ++ putT s.1 ++ numT s.2.1 ++ flagT s.2.2 = t ++ symT s := by simp [symT, catL, ByteArray.append_assoc]
theorem ref_cat (t : ByteArray) (s : refE) : t ++ numT s.1 ++ putT s.2.1 ++ numT s.2.2.1 ++ flagT s.2.2.2 = t ++ refT s := by simp [refT, catL, ByteArray.append_assoc]
theorem lay_cat (t : ByteArray) (x y : ByteArray) : t ++ x ++ y = t ++ catL [x, y] := by simp [catL, ByteArray.append_assoc]
theorem symAt {w : World} {x : Addr} {S : List symE} (h : RowIs 3 symC w (some x) S) (k : Nat) (hk : k < S.length) (nm : ByteArray) (p : Int) (g : Bool) (e : S[k] = (nm, p, g)) : ∀ w', Below w.heap.size w w' → w'.cell? (x.add (k * 3)) = some (.string nm) ∧ w'.cell? ⟨(x.add (k * 3)).block, (x.add (k * 3)).off + 1, none⟩ = some (.int .i64 p) ∧ w'.cell? ⟨(x.add (k * 3)).block, (x.add (k * 3)).off + 2, none⟩ = some (.bool g) := fun w' hb => by
  obtain ⟨y, hy, _, hE⟩ := (h.below hb).elem k hk
  cases hy
  rw [e] at hE
  exact ElemAt.three hE
theorem refAt {w : World} {x : Addr} {S : List refE} (h : RowIs 4 refC w (some x) S) (k : Nat) (hk : k < S.length) (p : Int) (nm : ByteArray) (q : Int) (g : Bool) (e : S[k] = (p, nm, q, g)) : ∀ w', Below w.heap.size w w' → w'.cell? (x.add (k * 4)) = some (.int .i64 p) ∧ w'.cell? ⟨(x.add (k * 4)).block, (x.add (k * 4)).off + 1, none⟩ = some (.string nm) ∧ w'.cell? ⟨(x.add (k * 4)).block, (x.add (k * 4)).off + 2, none⟩ = some (.int .i64 q) ∧ w'.cell? ⟨(x.add (k * 4)).block, (x.add (k * 4)).off + 3, none⟩ = some (.bool g) := fun w' hb => by
  obtain ⟨y, hy, _, hE⟩ := (h.below hb).elem k hk
  cases hy
  rw [e] at hE
  exact ElemAt.four hE
set_option maxRecDepth 100000 in
set_option maxHeartbeats 6400000 in
theorem l07Bytes_any (a b c : Option Addr) (W : List Int) (S : List symE) (R : List refE) (ka kb kc : Nat) (w : World) (hO : ObjIs w a b c W S R) (hF : ObjFits W S R) (hN1 : ∀ n ∈ W, is64 n) (hN2 : ∀ s ∈ S, s.1.size ≤ 20 ∧ is64 s.2.1) (hN3 : ∀ s ∈ R, s.2.1.size ≤ 20 ∧ is64 s.1 ∧ is64 s.2.2.1) :
    Calls Try.prog 32 #[.agg #[.slice a W.length ka, .slice b S.length kb, .slice c R.length kc]] w fun e w' => e = .returned (.string (objU W S R)) ∧ Below w.heap.size w w' := by
  have HO : Hid (ObjIs w a b c W S R) := hO
  have HF : Hid (ObjFits W S R) := hF
  have HN1 : Hid (∀ n ∈ W, is64 n) := hN1
  have HN2 : Hid (∀ s ∈ S, s.1.size ≤ 20 ∧ is64 s.2.1) := hN2
  have HN3 : Hid (∀ s ∈ R, s.2.1.size ≤ 20 ∧ is64 s.1 ∧ is64 s.2.2.1) := hN3
  have wl := hF.wl
  have sl := hF.sl
  have rl := hF.rl
  have n1 := numT_le (W.length : Int)
  have n2 := numT_le (S.length : Int)
  have n3 := numT_le (R.length : Int)
  clear hO hF hN1 hN2 hN3
  go_enter Try.func32, Try.ntmps32
  go_wp2_with fail
  refine (specNum_any (W.length : Int) _ (by omega) (by omega)).mono ?_
  rintro e x1 ⟨rfl, hb⟩
  have HVc : Hid (x1.heap[w.heap.size]? = _) := heap_keep (heap_alloc_new w _) hb
  have HBc : Hid (Below w.heap.size w x1) := below_call (below_new _ _) hb
  clear hb
  go_wp2
  go_loopw [3, 4] (fun tv iv wr => ∃ (k : Nat) (t : ByteArray), k ≤ W.length ∧ iv = .int .i64 k ∧ tv = .string t ∧ t.size ≤ 10 + 10 * k ∧ Hid (t = preL numT (numT (W.length : Int)) W k) ∧ Hid (wr.heap[w.heap.size]? = some (.cells #[.slice a W.length ka, .slice b S.length kb, .slice c R.length kc] 34 (0, 0))) ∧ Hid (Below w.heap.size w wr)) (fun _ iv _ => W.length - (intOf iv).toNat)
  case atStart => exact ⟨0, numT (W.length : Int), by omega, rfl, rfl, by omega, (preL_zero _ _ _).symm, HVc.out, HBc.out⟩
  case round =>
    obtain ⟨k, t, hk, rfl, rfl, ht, HT, HVc, HBc⟩ := hrel
    obtain ⟨c0, c1, c2⟩ := cells3L HVc.out
    by_cases hlt : k < W.length
    · obtain ⟨x, rfl, hx, hc⟩ := (HO.out.ws.below HBc.out) (by omega)
      have d0 := hc k hlt
      obtain ⟨q0, q1⟩ := HN1.out W[k] (List.getElem_mem hlt)
      have HTK : Hid (_ = _) := preL_succ numT (numT (W.length : Int)) W k hlt
      have hnk := numT_le W[k]
      have hi0 : (0 : Int) ≤ (k : Int) := by omega
      have hi1 : (k : Int) < (W.length : Int) := by omega
      clear hc
      go_wp2_with fail
      refine (specNum_any W[k] _ q0 q1).mono ?_
      rintro e x2 ⟨rfl, hb⟩
      have HVd : Hid (_ = _) := heap_keep HVc.out hb
      have HBd : Hid (Below w.heap.size w x2) := below_call HBc.out hb
      clear hb c0 c1 c2 d0
      go_wp2
      go_roundw
      case rel => exact ⟨k + 1, _, by omega, by go_num, rfl, by rw [ByteArray.size_append]; omega, by show _ = _; rw [HTK.out, ← HT.out], HVd.out, HBd.out⟩
      case measure => simp [intOf]; omega
    · obtain rfl : k = W.length := by omega
      have HT2 : Hid (t = layN W) := by show _ = _; rw [HT.out, preL_all]; simp [layN, catL]
      clear HT
      go_wp2_with fail
      refine (specNum_any (S.length : Int) _ (by omega) (by omega)).mono ?_
      rintro e x2 ⟨rfl, hb⟩
      have HVd : Hid (_ = _) := heap_keep HVc.out hb
      have HBd : Hid (Below w.heap.size w x2) := below_call HBc.out hb
      clear hb c0 c1 c2 HVc HBc
      go_wp2
      go_loopw [3, 5] (fun tv iv wr => ∃ (k : Nat) (t2 : ByteArray), k ≤ S.length ∧ iv = .int .i64 k ∧ tv = .string t2 ∧ t2.size ≤ 20 + 10 * W.length + 60 * k ∧ Hid (t2 = preL symT (t ++ numT (S.length : Int)) S k) ∧ Hid (wr.heap[w.heap.size]? = some (.cells #[.slice a W.length ka, .slice b S.length kb, .slice c R.length kc] 34 (0, 0))) ∧ Hid (Below w.heap.size w wr)) (fun _ iv _ => S.length - (intOf iv).toNat)
      case atStart => exact ⟨0, _, by omega, rfl, rfl, by rw [ByteArray.size_append]; omega, (preL_zero _ _ _).symm, HVd.out, HBd.out⟩
      case round =>
        obtain ⟨k, t2, hk, rfl, rfl, ht2, HT, HVc, HBc⟩ := hrel
        by_cases hlt : k < S.length
        · obtain ⟨x, rfl, hx, _⟩ := HO.out.ss.elem k hlt
          obtain ⟨nm, p, g, es⟩ : ∃ nm p g, S[k] = (nm, p, g) := ⟨_, _, _, rfl⟩
          have HEL : Hid (∀ w', Below w.heap.size w w' → _) := symAt HO.out.ss k hlt nm p g es
          have hq := HN2.out S[k] (List.getElem_mem hlt)
          have HTK : Hid (_ = _) := preL_succ symT (t ++ numT (S.length : Int)) S k hlt
          rw [es] at hq HTK
          have hsz := symT_le hq.1
          have HSC : Hid (t2 ++ putT nm ++ numT p ++ flagT g = t2 ++ symT (nm, p, g)) := sym_cat t2 (nm, p, g)
          dsimp only at hq
          obtain ⟨q0, q1, q2⟩ := hq
          have q0' : nm.size ≤ maxLen := by unfold maxLen; omega
          have z1 := putT_small q0
          have z2 := numT_le p
          have z3 := flagT_le g
          have hi0 : (0 : Int) ≤ (k : Int) := by omega
          have hi1 : (k : Int) < (S.length : Int) := by omega
          have e1 := addX t2 (putT nm) (by omega) (by omega)
          have e2 := addX (t2 ++ putT nm) (numT p) (by simp only [ByteArray.size_append]; omega) (by omega)
          have e3 := addX (t2 ++ putT nm ++ numT p) (flagT g) (by simp only [ByteArray.size_append]; omega) (by omega)
          clear es
          obtain ⟨c0, c1, c2⟩ := cells3L HVc.out
          go_wp2_with fail
          go_region_held3 (fun w' => w'.cell? ⟨w.heap.size, 1, none⟩ = some (.slice (some x) S.length kb) ∧ w'.cell? (x.add (k * 3)) = some (.string nm) ∧ w'.cell? ⟨(x.add (k * 3)).block, (x.add (k * 3)).off + 1, none⟩ = some (.int .i64 p) ∧ w'.cell? ⟨(x.add (k * 3)).block, (x.add (k * 3)).off + 2, none⟩ = some (.bool g)) (exact ⟨(cells3L (by repeat (first | with_reducible exact HVc.out | with_reducible apply heap_drewn | with_reducible apply heap_more))).2.1, HEL.out _ (by repeat (first | with_reducible exact HBc.out | with_reducible refine Below.drew ?_))⟩) (first
            | (go_at_call 68; refine (specPutText_any nm _ q0').mono ?_; rintro e xc ⟨rfl, hb⟩; have HVc : Hid (_ = _) := heap_keep (by repeat (first | with_reducible exact HVc.out | with_reducible apply heap_drewn)) hb; have HBc : Hid (Below w.heap.size w xc) := below_call (by repeat (first | with_reducible exact HBc.out | with_reducible refine Below.drew ?_)) hb; clear hb)
            | (go_at_call 67; refine (specNum_any p _ q1 q2).mono ?_; rintro e xc ⟨rfl, hb⟩; have HVc : Hid (_ = _) := heap_keep (by repeat (first | with_reducible exact HVc.out | with_reducible apply heap_drewn)) hb; have HBc : Hid (Below w.heap.size w xc) := below_call (by repeat (first | with_reducible exact HBc.out | with_reducible refine Below.drew ?_)) hb; clear hb)
            | (go_at_call 69; refine (l07Bool_any g _).mono ?_; rintro e xc ⟨rfl, hb⟩; have HVc : Hid (_ = _) := heap_keep (by repeat (first | with_reducible exact HVc.out | with_reducible apply heap_drewn)) hb; have HBc : Hid (Below w.heap.size w xc) := below_call (by repeat (first | with_reducible exact HBc.out | with_reducible refine Below.drew ?_)) hb; clear hb))
          all_goals
            clear c0 c1 c2
            go_wp2
            go_roundw
            case rel => exact ⟨k + 1, _, by omega, by go_num, rfl, by simp only [ByteArray.size_append]; omega, by show _ = _; rw [HTK.out, ← HT.out, ← HSC.out], HVc.out, HBc.out⟩
            case measure => simp [intOf]; omega
        · obtain rfl : k = S.length := by omega
          have HT3 : Hid (t2 = t ++ layS S) := by show _ = _; rw [HT.out, preL_all, lay_cat]; rfl
          clear HT
          obtain ⟨c0, c1, c2⟩ := cells3L HVc.out
          go_wp2_with fail
          refine (specNum_any (R.length : Int) _ (by omega) (by omega)).mono ?_
          rintro e x3 ⟨rfl, hb⟩
          have HVd : Hid (_ = _) := heap_keep HVc.out hb
          have HBd : Hid (Below w.heap.size w x3) := below_call HBc.out hb
          clear hb c0 c1 c2 HVc HBc
          go_wp2
          go_loopw [3, 6] (fun tv iv wr => ∃ (k : Nat) (t3 : ByteArray), k ≤ R.length ∧ iv = .int .i64 k ∧ tv = .string t3 ∧ t3.size ≤ 30 + 10 * W.length + 60 * S.length + 70 * k ∧ Hid (t3 = preL refT (t2 ++ numT (R.length : Int)) R k) ∧ Hid (wr.heap[w.heap.size]? = some (.cells #[.slice a W.length ka, .slice b S.length kb, .slice c R.length kc] 34 (0, 0))) ∧ Hid (Below w.heap.size w wr)) (fun _ iv _ => R.length - (intOf iv).toNat)
          case atStart => exact ⟨0, _, by omega, rfl, rfl, by rw [ByteArray.size_append]; omega, (preL_zero _ _ _).symm, HVd.out, HBd.out⟩
          case round =>
            obtain ⟨k, t3, hk, rfl, rfl, ht3, HT, HVc, HBc⟩ := hrel
            by_cases hlt : k < R.length
            · obtain ⟨x, rfl, hx, _⟩ := HO.out.rs.elem k hlt
              obtain ⟨p, nm, q, g, es⟩ : ∃ p nm q g, R[k] = (p, nm, q, g) := ⟨_, _, _, _, rfl⟩
              have HEL : Hid (∀ w', Below w.heap.size w w' → _) := refAt HO.out.rs k hlt p nm q g es
              have hq := HN3.out R[k] (List.getElem_mem hlt)
              have HTK : Hid (_ = _) := preL_succ refT (t2 ++ numT (R.length : Int)) R k hlt
              rw [es] at hq HTK
              have hsz := refT_le hq.1
              have HSC : Hid (t3 ++ numT p ++ putT nm ++ numT q ++ flagT g = t3 ++ refT (p, nm, q, g)) := ref_cat t3 (p, nm, q, g)
              dsimp only at hq
              obtain ⟨q0, ⟨q1, q2⟩, q3, q4⟩ := hq
              have q0' : nm.size ≤ maxLen := by unfold maxLen; omega
              have z1 := putT_small q0
              have z2 := numT_le p
              have z4 := numT_le q
              have z3 := flagT_le g
              have hi0 : (0 : Int) ≤ (k : Int) := by omega
              have hi1 : (k : Int) < (R.length : Int) := by omega
              have e1 := addX t3 (numT p) (by omega) (by omega)
              have e2 := addX (t3 ++ numT p) (putT nm) (by simp only [ByteArray.size_append]; omega) (by omega)
              have e3 := addX (t3 ++ numT p ++ putT nm) (numT q) (by simp only [ByteArray.size_append]; omega) (by omega)
              have e4 := addX (t3 ++ numT p ++ putT nm ++ numT q) (flagT g) (by simp only [ByteArray.size_append]; omega) (by omega)
              clear es
              obtain ⟨c0, c1, c2⟩ := cells3L HVc.out
              go_wp2_with fail
              go_region_held3 (fun w' => w'.cell? ⟨w.heap.size, 2, none⟩ = some (.slice (some x) R.length kc) ∧ w'.cell? (x.add (k * 4)) = some (.int .i64 p) ∧ w'.cell? ⟨(x.add (k * 4)).block, (x.add (k * 4)).off + 1, none⟩ = some (.string nm) ∧ w'.cell? ⟨(x.add (k * 4)).block, (x.add (k * 4)).off + 2, none⟩ = some (.int .i64 q) ∧ w'.cell? ⟨(x.add (k * 4)).block, (x.add (k * 4)).off + 3, none⟩ = some (.bool g)) (exact ⟨(cells3L (by repeat (first | with_reducible exact HVc.out | with_reducible apply heap_drewn | with_reducible apply heap_more))).2.2, HEL.out _ (by repeat (first | with_reducible exact HBc.out | with_reducible refine Below.drew ?_))⟩) (first
                | (go_at_call 68; refine (specPutText_any nm _ q0').mono ?_; rintro e xc ⟨rfl, hb⟩; have HVc : Hid (_ = _) := heap_keep (by repeat (first | with_reducible exact HVc.out | with_reducible apply heap_drewn)) hb; have HBc : Hid (Below w.heap.size w xc) := below_call (by repeat (first | with_reducible exact HBc.out | with_reducible refine Below.drew ?_)) hb; clear hb)
                | (go_at_call_of 67 (Value.int .i64 p); refine (specNum_any p _ q1 q2).mono ?_; rintro e xc ⟨rfl, hb⟩; have HVc : Hid (_ = _) := heap_keep (by repeat (first | with_reducible exact HVc.out | with_reducible apply heap_drewn)) hb; have HBc : Hid (Below w.heap.size w xc) := below_call (by repeat (first | with_reducible exact HBc.out | with_reducible refine Below.drew ?_)) hb; clear hb)
                | (go_at_call_of 67 (Value.int .i64 q); refine (specNum_any q _ q3 q4).mono ?_; rintro e xc ⟨rfl, hb⟩; have HVc : Hid (_ = _) := heap_keep (by repeat (first | with_reducible exact HVc.out | with_reducible apply heap_drewn)) hb; have HBc : Hid (Below w.heap.size w xc) := below_call (by repeat (first | with_reducible exact HBc.out | with_reducible refine Below.drew ?_)) hb; clear hb)
                | (go_at_call 69; refine (l07Bool_any g _).mono ?_; rintro e xc ⟨rfl, hb⟩; have HVc : Hid (_ = _) := heap_keep (by repeat (first | with_reducible exact HVc.out | with_reducible apply heap_drewn)) hb; have HBc : Hid (Below w.heap.size w xc) := below_call (by repeat (first | with_reducible exact HBc.out | with_reducible refine Below.drew ?_)) hb; clear hb))
              all_goals
                clear c0 c1 c2
                go_wp2
                go_roundw
                case rel => exact ⟨k + 1, _, by omega, by go_num, rfl, by simp only [ByteArray.size_append]; omega, by show _ = _; rw [HTK.out, ← HT.out, ← HSC.out], HVc.out, HBc.out⟩
                case measure => simp [intOf]; omega
            · obtain rfl : k = R.length := by omega
              have HT4 : Hid (t3 = objT W S R) := by show _ = _; rw [HT.out, preL_all, lay_cat, HT3.out, HT2.out]; simp [objT, catL, layR, ByteArray.append_assoc]
              clear HT
              obtain ⟨c0, c1, c2⟩ := cells3L HVc.out
              by_cases h8 : 8000 < t3.size
              · have h8' : (8000 : Int) < (t3.size : Int) := by omega
                have HI : Hid (objU W S R = (⟨#[]⟩ : ByteArray)) := by show _ = _; unfold objU; rw [← HT4.out, if_pos h8]
                go_wp2
                go_ret
                exact ⟨ret_str HI.out.symm, HBc.out⟩
              · have h8' : ¬ (8000 : Int) < (t3.size : Int) := by omega
                have HI : Hid (objU W S R = t3) := by show _ = _; unfold objU; rw [← HT4.out, if_neg h8]
                go_wp2
                go_ret
                exact ⟨ret_str HI.out.symm, HBc.out⟩
set_option maxRecDepth 100000 in
set_option maxHeartbeats 1600000 in
theorem specBytes_any (a b c : Option Addr) (W : List Int) (S : List symE) (R : List refE) (ka kb kc : Nat) (w : World) (hO : ObjIs w a b c W S R) (hF : ObjFits W S R) : Calls Try.prog 10 #[.agg #[.slice a W.length ka, .slice b S.length kb, .slice c R.length kc]] w fun e w' => e = .returned (.string (objO W S R)) ∧ Below w.heap.size w w' := by
  have HO : Hid (ObjIs w a b c W S R) := hO
  have HF : Hid (ObjFits W S R) := hF
  clear hO hF
  go_enter Try.func10, Try.ntmps10
  go_wp2_with fail
  refine (specObject_any a b c W S R ka kb kc _ (HO.out.below (below_new w _)) HF.out).mono ?_
  rintro e x1 ⟨rfl, hb⟩
  have HVc : Hid (x1.heap[w.heap.size]? = _) := heap_keep (heap_alloc_new w _) hb
  have HBc : Hid (Below w.heap.size w x1) := below_call (below_new _ _) hb
  clear hb
  cases hok : objB W S R
  · have HI : Hid (objO W S R = ⟨#[]⟩) := by show _ = _; unfold objO; rw [hok]; rfl
    clear hok
    go_wp2
    go_ret
    exact ⟨ret_str HI.out.symm, HBc.out⟩
  have HI : Hid (objO W S R = objU W S R) := by show _ = _; unfold objO; rw [hok]; rfl
  obtain ⟨hn1, hn2, hn3⟩ := obj_nums hok
  have HN1 : Hid (∀ n ∈ W, is64 n) := hn1
  have HN2 : Hid (∀ s ∈ S, s.1.size ≤ 20 ∧ is64 s.2.1) := hn2
  have HN3 : Hid (∀ s ∈ R, s.2.1.size ≤ 20 ∧ is64 s.1 ∧ is64 s.2.2.1) := hn3
  clear hok hn1 hn2 hn3
  obtain ⟨c0, c1, c2⟩ := cells3L HVc.out
  go_wp2_with fail
  refine (l07Bytes_any a b c W S R ka kb kc _ (HO.out.below HBc.out) HF.out HN1.out HN2.out HN3.out).mono ?_
  rintro e x2 ⟨rfl, hb⟩
  have HBd : Hid (Below w.heap.size w x2) := below_call HBc.out hb
  go_wp2
  go_ret
  exact ⟨ret_str HI.out.symm, HBd.out⟩
end Go.Proofs.Ytcnjeeckkpiilaa
