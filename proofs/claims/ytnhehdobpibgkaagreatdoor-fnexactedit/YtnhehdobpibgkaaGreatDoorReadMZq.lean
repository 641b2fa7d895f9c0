/- Lists alone: an object is read of its bytes, and what is read is told by just these bytes. -/
import Derived.WalkKit
import Derived.Test.YtnhehdobpibgkaaGreatDoorRows
import Derived.Test.YtnhehdobpibgkaaGreatDoorBun8
import Derived.Test.YtnhehdobpibgkaaGreatDoorBun28
import Derived.Test.YtnhehdobpibgkaaGreatDoorBun11
import Derived.Test.YtnhehdobpibgkaaGreatDoorBun29
import Derived.Test.YtnhehdobpibgkaaGreatDoorBun31
namespace Go.Proofs.YtnhehdobpibgkaaGreatDoor
open Go.RowKit
set_option linter.unusedVariables false

/- What is read as a number is its bytes. -/
theorem rdF_can (s : ByteArray) (p : Nat) : ∀ (f i U : Nat) (n q : Int), i + f = 9 → U < 2 ^ (7 * i) → rdF s p (f + 1) i U = (n, q, 0) →
    ∃ c, c * 2 ^ (7 * i) < 18446744073709551616 ∧ U + c * 2 ^ (7 * i) < 18446744073709551616 ∧ (c = 0 → i = 0) ∧ n = unf (U + c * 2 ^ (7 * i)) ∧ q = ((p + i + (vbF f c).length : Nat) : Int) ∧ s.data.toList.drop (p + i) = vbF f c ++ s.data.toList.drop (p + i + (vbF f c).length) := by
  intro f
  induction f with
  | zero =>
    intro i U n q hi hU h
    obtain rfl : i = 9 := by omega
    by_cases hin : p + 9 < s.size
    · have hd := List.drop_eq_getElem_cons (l := s.data.toList) (i := p + 9) (by simpa using hin)
      by_cases h1 : 1 < s[p + 9].toNat
      · rw [rdF_wrong hin rfl h1] at h; simp at h
      · by_cases h0 : s[p + 9].toNat = 0
        · rw [rdF_zero hin h0 (by omega)] at h; simp at h
        · rw [rdF_last hin (by omega) (by omega) (by omega)] at h
          obtain ⟨rfl, h2⟩ := Prod.mk.inj h
          obtain ⟨rfl, _⟩ := Prod.mk.inj h2
          have hv : s[p + 9].toNat = 1 := by omega
          have hb : s.data.toList[p + 9]'(by simpa using hin) = UInt8.ofNat 1 := by
            apply UInt8.toNat_inj.1
            show s[p + 9].toNat = _
            rw [hv]; rfl
          refine ⟨1, by simp, ?_, by simp, ?_, ?_, ?_⟩
          · simp at hU ⊢; omega
          · rw [hv]
          · rw [vbF_last 0 1 (by omega)]; simp
          · rw [hd, hb, vbF_last 0 1 (by omega)]; simp
    · rw [rdF_short hin] at h; simp at h
  | succ f ih =>
    intro i U n q hi hU h
    by_cases hin : p + i < s.size
    · have hd := List.drop_eq_getElem_cons (l := s.data.toList) (i := p + i) (by simpa using hin)
      have hlt : s[p + i].toNat < 256 := s[p + i].toNat_lt
      by_cases h128 : s[p + i].toNat < 128
      · by_cases h0 : s[p + i].toNat = 0 ∧ 0 < i
        · rw [rdF_zero hin h0.1 h0.2] at h; simp at h
        · rw [rdF_last hin h128 (by omega) h0, Nat.mod_eq_of_lt h128] at h
          obtain ⟨rfl, h2⟩ := Prod.mk.inj h
          obtain ⟨rfl, _⟩ := Prod.mk.inj h2
          have hss := small_step (c := s[p + i].toNat) hU (by omega) (fun e => by omega)
          rw [Nat.mod_eq_of_lt h128] at hss
          have hb : s.data.toList[p + i]'(by simpa using hin) = UInt8.ofNat s[p + i].toNat := by
            apply UInt8.toNat_inj.1
            show s[p + i].toNat = _
            rw [of_small _ hlt]
          refine ⟨s[p + i].toNat, hss.2, hss.1, by omega, rfl, ?_, ?_⟩
          · rw [vbF_last _ _ h128]; simp
          · rw [hd, hb, vbF_last _ _ h128]; simp
      · rw [rdF_more hin (by omega) (by omega)] at h
        obtain ⟨c, hc1, hc2, hc3, rfl, rfl, hdr⟩ := ih (i + 1) _ n q (by omega) (step_lt hU) h
        have he : 2 ^ (7 * (i + 1)) = 128 * 2 ^ (7 * i) := by rw [show 7 * (i + 1) = 7 + 7 * i by omega, Nat.pow_add]
        have hc0 : 1 ≤ c := by
          rcases Nat.eq_zero_or_pos c with h0 | h0
          · exact absurd (hc3 h0) (by omega)
          · exact h0
        have hb : s.data.toList[p + i]'(by simpa using hin) = UInt8.ofNat ((s[p + i].toNat % 128 + 128 * c) % 128 + 128) := by
          apply UInt8.toNat_inj.1
          show s[p + i].toNat = _
          rw [of_small _ (by omega)]; omega
        have hq : (s[p + i].toNat % 128 + 128 * c) / 128 = c := by omega
        have hv : vbF (f + 1) (s[p + i].toNat % 128 + 128 * c) = UInt8.ofNat ((s[p + i].toNat % 128 + 128 * c) % 128 + 128) :: vbF f c := by
          rw [vbF_more _ _ (by omega), hq]
        have hm : U + s[p + i].toNat % 128 * 2 ^ (7 * i) + c * 2 ^ (7 * (i + 1)) = U + (s[p + i].toNat % 128 + 128 * c) * 2 ^ (7 * i) := by
          rw [he, ← Nat.mul_assoc, Nat.add_assoc, ← Nat.add_mul, Nat.mul_comm c 128]
        refine ⟨s[p + i].toNat % 128 + 128 * c, by omega, by omega, by omega, ?_, ?_, ?_⟩
        · rw [hm]
        · rw [hv, List.length_cons]; congr 1; omega
        · rw [hd, hb, hv, List.cons_append, List.length_cons]
          congr 1
          rw [show p + i + ((vbF f c).length + 1) = p + (i + 1) + (vbF f c).length by omega, ← hdr]
          rfl
    · rw [rdF_short hin] at h; simp at h
theorem fold_unf (u : Nat) (h : u < 18446744073709551616) : foldN (unf u) = u := by
  unfold unf foldN
  split <;> split <;> omega
def numL (n : Int) : List UInt8 := (numT n).data.toList
theorem numL_eq (n : Int) : numL n = putL (foldN n) := by simp [numL, numT, putS]
theorem numL_pos (n : Int) : 1 ≤ (numL n).length := by rw [numL_eq]; exact (vbF_len 9 _).1
theorem getN_can {s : ByteArray} {p : Nat} {n q : Int} (h : getN s (p : Int) = (n, q, 0)) : is64 n ∧ q = ((p + (numL n).length : Nat) : Int) ∧ s.data.toList.drop p = numL n ++ s.data.toList.drop (p + (numL n).length) := by
  unfold getN at h
  rw [if_neg (by omega)] at h
  by_cases hs : (s.size : Int) ≤ p
  · rw [if_pos hs] at h; simp at h
  · rw [if_neg hs, Int.toNat_natCast] at h
    obtain ⟨c, hc1, hc2, _, rfl, rfl, hd⟩ := rdF_can s p 9 0 0 n q rfl (by simp) h
    simp only [Nat.mul_zero, Nat.pow_zero, Nat.mul_one, Nat.zero_add, Nat.add_zero] at *
    have hb := unf_bd c hc2
    rw [numL_eq, fold_unf c hc2]
    exact ⟨hb, rfl, hd⟩
theorem drop_is {s : ByteArray} {p : Nat} {l : List UInt8} (h : s.data.toList.drop p = l) (hp : p ≤ s.size) : s.data.toList = s.data.toList.take p ++ l ∧ (s.data.toList.take p).length = p := by
  refine ⟨by rw [← h, List.take_append_drop], by simp; omega⟩
theorem getN_put' {s : ByteArray} {p : Nat} {n : Int} {post : List UInt8} (hp : p ≤ s.size) (hn : is64 n) (h : s.data.toList.drop p = numL n ++ post) : getN s (p : Int) = (n, ((p + (numL n).length : Nat) : Int), 0) := by
  obtain ⟨h1, h2⟩ := drop_is h hp
  have := getN_put s (s.data.toList.take p) post (foldN n) (foldN_lt n hn.1 hn.2) (by rw [← numL_eq]; exact h1)
  rw [h2, unf_fold, ← numL_eq] at this
  rw [this]; congr 2

/- A reader and what it reads. -/
structure Codec {α : Type} (s : ByteArray) (f : Int → Option (α × Int)) (enc : α → List UInt8) (good : α → Prop) : Prop where
  can : ∀ (p : Nat) a q, p ≤ s.size → f p = some (a, q) → good a ∧ q = ((p + (enc a).length : Nat) : Int) ∧ s.data.toList.drop p = enc a ++ s.data.toList.drop (p + (enc a).length)
  put : ∀ (p : Nat) a post, p ≤ s.size → good a → s.data.toList.drop p = enc a ++ post → f p = some (a, ((p + (enc a).length : Nat) : Int))
theorem drop_fits {s : ByteArray} {p : Nat} {l m : List UInt8} (hp : p ≤ s.size) (h : s.data.toList.drop p = l ++ m) : p + l.length ≤ s.size ∧ s.data.toList.drop (p + l.length) = m := by
  have e := congrArg List.length h
  simp at e
  refine ⟨by omega, ?_⟩
  rw [← List.drop_drop, h, List.drop_left]
def pN (s : ByteArray) (at_ : Int) : Option (Int × Int) := if (getN s at_).2.2 = 0 then some ((getN s at_).1, (getN s at_).2.1) else none
def pT (s : ByteArray) (at_ : Int) : Option (ByteArray × Int) := if (getT s (getN s at_)).2.2 = 0 then some ((getT s (getN s at_)).1, (getT s (getN s at_)).2.1) else none
def seqP {α β : Type} (f : Int → Option (α × Int)) (g : Int → Option (β × Int)) (at_ : Int) : Option ((α × β) × Int) := (f at_).bind fun x => (g x.2).bind fun y => some ((x.1, y.1), y.2)
def pF (s : ByteArray) (at_ : Int) : Option (Bool × Int) := (pN s at_).bind fun x => if x.1 = 0 ∨ x.1 = 1 then some (decide (x.1 = 1), x.2) else none
def sF (s : ByteArray) (at_ : Int) : Option (Bool × Int) := (pN s at_).bind fun x => some (decide (x.1 = 1), x.2)
def pMany {α : Type} (f : Int → Option (α × Int)) : Nat → Int → Option (List α × Int)
  | 0, at_ => some ([], at_)
  | k + 1, at_ => (f at_).bind fun x => (pMany f k x.2).bind fun y => some (x.1 :: y.1, y.2)
def pRow {α : Type} (s : ByteArray) (f : Int → Option (α × Int)) (at_ : Int) : Option (List α × Int) := (pN s at_).bind fun x => if x.1 < 0 then none else pMany f x.1.toNat x.2
def sRow {α : Type} (s : ByteArray) (f : Int → Option (α × Int)) (at_ : Int) : Option (List α × Int) := (pN s at_).bind fun x => pMany f x.1.toNat x.2
theorem codecN (s : ByteArray) : Codec s (pN s) numL is64 := by
  refine ⟨fun p a q hp h => ?_, fun p a post hp hg h => ?_⟩
  · unfold pN at h
    split at h
    · rename_i h0
      obtain ⟨rfl, rfl⟩ := Prod.mk.inj (Option.some.inj h)
      exact getN_can (s := s) (p := p) (by rw [← h0])
    · cases h
  · unfold pN
    rw [getN_put' hp hg h]
    rfl
def textLR (t : ByteArray) : List UInt8 := (putT t).data.toList
theorem textLR_eq {t : ByteArray} (h : t.size ≤ 8000) : textLR t = numL (t.size : Int) ++ t.data.toList := by
  unfold textLR putT
  rw [if_neg (by omega)]
  simp [numL, numT]
theorem codecT (s : ByteArray) : Codec s (pT s) textLR (fun t => t.size ≤ 8000) := by
  refine ⟨fun p a q hp h => ?_, fun p a post hp hg h => ?_⟩
  · unfold pT at h
    split at h
    · rename_i h0
      obtain ⟨rfl, rfl⟩ := Prod.mk.inj (Option.some.inj h)
      obtain ⟨n, q, c, e⟩ : ∃ n q c, getN s (p : Int) = (n, q, c) := ⟨_, _, _, rfl⟩
      rw [e] at h0 ⊢
      by_cases hc : c = 0
      · subst hc
        obtain ⟨_, rfl, hd⟩ := getN_can e
        obtain ⟨hf1, _⟩ := drop_fits hp hd
        by_cases hn : n < 0 ∨ 8000 < n
        · have : getT s (n, ((p + (numL n).length : Nat) : Int), 0) = _ := (if_neg (by simp)).trans (if_pos hn)
          rw [this] at h0; simp at h0
        · by_cases hs : (s.size : Int) - n < ((p + (numL n).length : Nat) : Int)
          · have : getT s (n, ((p + (numL n).length : Nat) : Int), 0) = _ := (if_neg (by simp)).trans ((if_neg hn).trans (if_pos hs))
            rw [this] at h0; simp at h0
          · have eT : getT s (n, ((p + (numL n).length : Nat) : Int), 0) = _ := (if_neg (by simp)).trans ((if_neg hn).trans (if_neg hs))
            rw [eT]
            dsimp only
            obtain ⟨m, rfl⟩ := Int.eq_ofNat_of_zero_le (show 0 ≤ n by omega)
            generalize hP : p + (numL (m : Int)).length = P at *
            have hx : (s.extract (P : Int).toNat ((P : Int) + (m : Int)).toNat).size = m := by simp; omega
            have hl : (s.extract (P : Int).toNat ((P : Int) + (m : Int)).toNat).data.toList = (s.data.toList.drop P).take m := by
              rw [Int.toNat_natCast, show ((P : Int) + (m : Int)).toNat = P + m by omega]
              simp [List.take_drop]
            have ht : textLR (s.extract (P : Int).toNat ((P : Int) + (m : Int)).toNat) = numL (m : Int) ++ (s.data.toList.drop P).take m := by
              rw [textLR_eq (by omega), hx, hl]
            have htl : (textLR (s.extract (P : Int).toNat ((P : Int) + (m : Int)).toNat)).length = (numL (m : Int)).length + m := by
              rw [ht]; simp; omega
            refine ⟨by omega, ?_, ?_⟩
            · rw [htl]; omega
            · rw [htl, hd, ht, List.append_assoc]
              congr 1
              rw [show p + ((numL (m : Int)).length + m) = P + m by omega, ← List.drop_drop, List.take_append_drop]
      · have : getT s (n, q, c) = (⟨#[]⟩, 0, c) := if_pos hc
        rw [this] at h0
        exact absurd h0 hc
    · cases h
  · unfold pT
    rw [textLR_eq hg, List.append_assoc] at h
    have hn := getN_put' hp (show is64 (a.size : Int) by unfold is64; omega) h
    obtain ⟨hf1, hf2⟩ := drop_fits hp h
    obtain ⟨hf3, hf4⟩ := drop_fits hf1 hf2
    have hal : a.data.toList.length = a.size := by simp
    have hf5 : p + (numL (a.size : Int)).length + a.size ≤ s.size := by rw [hal] at hf3; exact hf3
    rw [hn]
    have e : getT s ((a.size : Int), ((p + (numL (a.size : Int)).length : Nat) : Int), 0) = _ := (if_neg (by simp)).trans ((if_neg (by dsimp only; omega)).trans (if_neg (by dsimp only; omega)))
    rw [e, if_pos rfl]
    dsimp only
    congr 2
    · apply ByteArray.ext
      apply Array.toList_inj.1
      rw [Int.toNat_natCast, show (((p + (numL (a.size : Int)).length : Nat) : Int) + (a.size : Int)).toNat = p + (numL (a.size : Int)).length + a.size by omega]
      have hx : (s.data.toList.drop (p + (numL (a.size : Int)).length)).take a.size = a.data.toList := by rw [hf2, ← hal, List.take_left]
      rw [← hx]
      simp [List.take_drop]
    · rw [textLR_eq hg, List.length_append, hal]; omega
theorem Codec.seq {α β : Type} {s : ByteArray} {f : Int → Option (α × Int)} {g : Int → Option (β × Int)} {e1 : α → List UInt8} {e2 : β → List UInt8} {g1 : α → Prop} {g2 : β → Prop} (hf : Codec s f e1 g1) (hg : Codec s g e2 g2) :
    Codec s (seqP f g) (fun x => e1 x.1 ++ e2 x.2) (fun x => g1 x.1 ∧ g2 x.2) := by
  refine ⟨fun p x q hp h => ?_, fun p x post hp hx h => ?_⟩
  · unfold seqP at h
    obtain ⟨⟨a, q1⟩, h1, h2⟩ := Option.bind_eq_some_iff.1 h
    obtain ⟨⟨b, q2⟩, h3, h4⟩ := Option.bind_eq_some_iff.1 h2
    obtain ⟨rfl, rfl⟩ := Prod.mk.inj (Option.some.inj h4)
    obtain ⟨k1, rfl, k2⟩ := hf.can p a q1 hp h1
    obtain ⟨m1, m2⟩ := drop_fits hp k2
    obtain ⟨k3, rfl, k4⟩ := hg.can _ b q2 m1 h3
    dsimp only
    refine ⟨⟨k1, k3⟩, by rw [List.length_append]; omega, ?_⟩
    rw [k2, k4, List.length_append, List.append_assoc, Nat.add_assoc]
  · obtain ⟨a, b⟩ := x
    dsimp only at hx h ⊢
    rw [List.append_assoc] at h
    have k1 := hf.put p a _ hp hx.1 h
    obtain ⟨m1, m2⟩ := drop_fits hp h
    have k2 := hg.put _ b post m1 hx.2 m2
    unfold seqP
    rw [k1, Option.bind_some, k2, Option.bind_some, List.length_append, Nat.add_assoc]
def flagL (b : Bool) : List UInt8 := (flagT b).data.toList
theorem flagL_eq (b : Bool) : flagL b = numL (if b then 1 else 0) := rfl
theorem codecF (s : ByteArray) : Codec s (pF s) flagL (fun _ => True) := by
  refine ⟨fun p a q hp h => ?_, fun p a post hp _ h => ?_⟩
  · unfold pF at h
    obtain ⟨⟨n, q1⟩, h1, h2⟩ := Option.bind_eq_some_iff.1 h
    obtain ⟨_, rfl, k2⟩ := (codecN s).can p n q1 hp h1
    split at h2
    · rename_i hn
      obtain ⟨rfl, rfl⟩ := Prod.mk.inj (Option.some.inj h2)
      have e : numL n = flagL (decide (n = 1)) := by
        rw [flagL_eq]
        dsimp only at hn
        rcases hn with rfl | rfl <;> rfl
      rw [← e]
      exact ⟨trivial, rfl, k2⟩
    · cases h2
  · rw [flagL_eq] at h ⊢
    have k1 := (codecN s).put p _ post hp (by cases a <;> (unfold is64; simp)) h
    unfold pF
    rw [k1, Option.bind_some]
    cases a <;> rfl
theorem codecMany {α : Type} {s : ByteArray} {f : Int → Option (α × Int)} {enc : α → List UInt8} {good : α → Prop} (hf : Codec s f enc good) :
    ∀ k : Nat, (∀ (p : Nat) L q, p ≤ s.size → pMany f k p = some (L, q) → L.length = k ∧ (∀ a ∈ L, good a) ∧ q = ((p + (L.flatMap enc).length : Nat) : Int) ∧ s.data.toList.drop p = L.flatMap enc ++ s.data.toList.drop (p + (L.flatMap enc).length)) ∧
      (∀ (p : Nat) L post, p ≤ s.size → L.length = k → (∀ a ∈ L, good a) → s.data.toList.drop p = L.flatMap enc ++ post → pMany f k p = some (L, ((p + (L.flatMap enc).length : Nat) : Int))) := by
  intro k
  induction k with
  | zero =>
    refine ⟨fun p L q hp h => ?_, fun p L post hp hl hg h => ?_⟩
    · obtain ⟨rfl, rfl⟩ := Prod.mk.inj (Option.some.inj h)
      simp
    · obtain rfl := List.eq_nil_of_length_eq_zero hl
      simp [pMany]
  | succ k ih =>
    refine ⟨fun p L q hp h => ?_, fun p L post hp hl hg h => ?_⟩
    · unfold pMany at h
      obtain ⟨⟨a, q1⟩, h1, h2⟩ := Option.bind_eq_some_iff.1 h
      obtain ⟨⟨M, q2⟩, h3, h4⟩ := Option.bind_eq_some_iff.1 h2
      obtain ⟨rfl, rfl⟩ := Prod.mk.inj (Option.some.inj h4)
      obtain ⟨k1, rfl, k2⟩ := hf.can p a q1 hp h1
      obtain ⟨m1, m2⟩ := drop_fits hp k2
      obtain ⟨k3, k5, rfl, k4⟩ := ih.1 _ M q2 m1 h3
      dsimp only
      refine ⟨by rw [List.length_cons, k3], ?_, by rw [List.flatMap_cons, List.length_append]; omega, ?_⟩
      · intro b hb
        rcases List.mem_cons.1 hb with rfl | hb
        · exact k1
        · exact k5 b hb
      · rw [List.flatMap_cons, k2, k4, List.length_append, List.append_assoc, Nat.add_assoc]
    · match L, hl with
      | a :: M, hl =>
        rw [List.flatMap_cons, List.append_assoc] at h
        have k1 := hf.put p a _ hp (hg a (List.mem_cons_self ..)) h
        obtain ⟨m1, m2⟩ := drop_fits hp h
        have k2 := ih.2 _ M post m1 (by simpa using hl) (fun b hb => hg b (List.mem_cons_of_mem _ hb)) m2
        unfold pMany
        rw [k1, Option.bind_some, k2, Option.bind_some, List.flatMap_cons, List.length_append, Nat.add_assoc]
def rowLR {α : Type} (enc : α → List UInt8) (L : List α) : List UInt8 := numL (L.length : Int) ++ L.flatMap enc
theorem codecRow {α : Type} {s : ByteArray} {f : Int → Option (α × Int)} {enc : α → List UInt8} {good : α → Prop} (hf : Codec s f enc good) :
    Codec s (pRow s f) (rowLR enc) (fun L => (∀ a ∈ L, good a) ∧ is64 (L.length : Int)) := by
  refine ⟨fun p L q hp h => ?_, fun p L post hp hg h => ?_⟩
  · unfold pRow at h
    obtain ⟨⟨n, q1⟩, h1, h2⟩ := Option.bind_eq_some_iff.1 h
    obtain ⟨k0, rfl, k2⟩ := (codecN s).can p n q1 hp h1
    obtain ⟨m1, m2⟩ := drop_fits hp k2
    dsimp only at h2
    split at h2
    · cases h2
    · rename_i hn
      obtain ⟨l1, l2, rfl, l4⟩ := (codecMany hf n.toNat).1 _ L q m1 h2
      have e : (L.length : Int) = n := by omega
      unfold rowLR
      rw [e]
      refine ⟨⟨l2, k0⟩, by rw [List.length_append]; omega, ?_⟩
      rw [k2, l4, List.length_append, List.append_assoc, Nat.add_assoc]
  · unfold rowLR at h ⊢
    rw [List.append_assoc] at h
    have k1 := (codecN s).put p _ _ hp hg.2 h
    obtain ⟨m1, m2⟩ := drop_fits hp h
    have k2 := (codecMany hf L.length).2 _ L post m1 rfl hg.1 m2
    unfold pRow
    rw [k1, Option.bind_some]
    dsimp only
    rw [if_neg (by omega), Int.toNat_natCast, k2, List.length_append, Nat.add_assoc]
def pSym (s : ByteArray) : Int → Option (symE × Int) := seqP (pT s) (seqP (pN s) (pF s))
def sSym (s : ByteArray) : Int → Option (symE × Int) := seqP (pT s) (seqP (pN s) (sF s))
def pRef (s : ByteArray) : Int → Option (refE × Int) := seqP (pN s) (seqP (pT s) (seqP (pN s) (pF s)))
def sRef (s : ByteArray) : Int → Option (refE × Int) := seqP (pN s) (seqP (pT s) (seqP (pN s) (sF s)))
def symL (x : symE) : List UInt8 := textLR x.1 ++ (numL x.2.1 ++ flagL x.2.2)
def refL (x : refE) : List UInt8 := numL x.1 ++ (textLR x.2.1 ++ (numL x.2.2.1 ++ flagL x.2.2.2))
abbrev objE : Type := List Int × List symE × List refE
def pAll (s : ByteArray) : Int → Option (objE × Int) := seqP (pRow s (pN s)) (seqP (pRow s (pSym s)) (pRow s (pRef s)))
def sAll (s : ByteArray) : Int → Option (objE × Int) := seqP (sRow s (pN s)) (seqP (sRow s (sSym s)) (sRow s (sRef s)))
def allL (o : objE) : List UInt8 := rowLR numL o.1 ++ (rowLR symL o.2.1 ++ rowLR refL o.2.2)
def goodAll (o : objE) : Prop := ((∀ a ∈ o.1, is64 a) ∧ is64 (o.1.length : Int)) ∧ ((∀ a ∈ o.2.1, a.1.size ≤ 8000 ∧ (is64 a.2.1 ∧ True)) ∧ is64 (o.2.1.length : Int)) ∧ ((∀ a ∈ o.2.2, is64 a.1 ∧ (a.2.1.size ≤ 8000 ∧ (is64 a.2.2.1 ∧ True))) ∧ is64 (o.2.2.length : Int))
theorem codecAll (s : ByteArray) : Codec s (pAll s) allL goodAll := Codec.seq (codecRow (codecN s)) (Codec.seq (codecRow (Codec.seq (codecT s) (Codec.seq (codecN s) (codecF s)))) (codecRow (Codec.seq (codecN s) (Codec.seq (codecT s) (Codec.seq (codecN s) (codecF s))))))
/- What the program reads, the specification reads too. -/
def leP {α : Type} (f g : Int → Option (α × Int)) : Prop := ∀ p x, f p = some x → g p = some x
theorem leP.refl {α : Type} (f : Int → Option (α × Int)) : leP f f := fun _ _ h => h
theorem leP.seq {α β : Type} {f f' : Int → Option (α × Int)} {g g' : Int → Option (β × Int)} (h : leP f f') (k : leP g g') : leP (seqP f g) (seqP f' g') := fun p x hx => by
  unfold seqP at hx ⊢
  obtain ⟨a, h1, h2⟩ := Option.bind_eq_some_iff.1 hx
  obtain ⟨b, h3, h4⟩ := Option.bind_eq_some_iff.1 h2
  rw [h _ _ h1, Option.bind_some, k _ _ h3, Option.bind_some, h4]
theorem leP.many {α : Type} {f g : Int → Option (α × Int)} (h : leP f g) : ∀ k p x, pMany f k p = some x → pMany g k p = some x := by
  intro k
  induction k with
  | zero => intro p x hx; exact hx
  | succ k ih =>
    intro p x hx
    unfold pMany at hx ⊢
    obtain ⟨a, h1, h2⟩ := Option.bind_eq_some_iff.1 hx
    obtain ⟨b, h3, h4⟩ := Option.bind_eq_some_iff.1 h2
    rw [h _ _ h1, Option.bind_some, ih _ _ h3, Option.bind_some, h4]
theorem leP.row {α : Type} {s : ByteArray} {f g : Int → Option (α × Int)} (h : leP f g) : leP (pRow s f) (sRow s g) := fun p x hx => by
  unfold pRow at hx
  unfold sRow
  obtain ⟨a, h1, h2⟩ := Option.bind_eq_some_iff.1 hx
  rw [h1, Option.bind_some]
  split at h2
  · cases h2
  · exact h.many _ _ _ h2
theorem leP.flag (s : ByteArray) : leP (pF s) (sF s) := fun p x hx => by
  unfold pF at hx
  unfold sF
  obtain ⟨a, h1, h2⟩ := Option.bind_eq_some_iff.1 hx
  rw [h1, Option.bind_some]
  split at h2
  · exact h2
  · cases h2
theorem leP.all (s : ByteArray) : leP (pAll s) (sAll s) := leP.seq (leP.row (leP.refl _)) (leP.seq (leP.row (leP.seq (leP.refl _) (leP.seq (leP.refl _) (leP.flag s)))) (leP.row (leP.seq (leP.refl _) (leP.seq (leP.refl _) (leP.seq (leP.refl _) (leP.flag s))))))
theorem cat_list {α : Type} (f : α → ByteArray) (L : List α) : (catL (L.map f)).data.toList = L.flatMap (fun a => (f a).data.toList) := by
  induction L with
  | nil => rfl
  | cons a L ih => rw [List.map_cons, List.flatMap_cons, ← ih]; simp [catL]
theorem lay_list {α : Type} (f : α → ByteArray) (L : List α) : (catL [numT (L.length : Int), catL (L.map f)]).data.toList = rowLR (fun a => (f a).data.toList) L := by
  unfold rowLR
  rw [← cat_list]
  simp [catL, numL]
theorem symT_list (x : symE) : (symT x).data.toList = symL x := by simp [symT, symL, catL, textLR, numL, flagL]
theorem refT_list (x : refE) : (refT x).data.toList = refL x := by simp [refT, refL, catL, textLR, numL, flagL]
theorem objT_list (W : List Int) (S : List symE) (R : List refE) : (objT W S R).data.toList = allL (W, S, R) := by
  have e1 : (layN W).data.toList = rowLR numL W := lay_list numT W
  have e2 : (layS S).data.toList = rowLR symL S := by
    have := lay_list symT S
    rw [show (fun a => (symT a).data.toList) = symL from funext symT_list] at this
    exact this
  have e3 : (layR R).data.toList = rowLR refL R := by
    have := lay_list refT R
    rw [show (fun a => (refT a).data.toList) = refL from funext refT_list] at this
    exact this
  unfold allL
  rw [← e1, ← e2, ← e3]
  simp [objT, catL]
/- What is read of a text, by the program and by the specification. -/
def readP (s : ByteArray) (o : objE) : Prop := pAll s 0 = some (o, (s.size : Int)) ∧ objB o.1 o.2.1 o.2.2 = true
def readS (s : ByteArray) (o : objE) : Prop := (∃ q, sAll s 0 = some (o, q)) ∧ objB o.1 o.2.1 o.2.2 = true ∧ objU o.1 o.2.1 o.2.2 = s
theorem read_PS {s : ByteArray} {o : objE} (hs : s.size ≤ 8000) (h : readP s o) : readS s o := by
  obtain ⟨h1, h2⟩ := h
  refine ⟨⟨_, leP.all s _ _ h1⟩, h2, ?_⟩
  obtain ⟨_, hq, hd⟩ := (codecAll s).can 0 o _ (by omega) h1
  have hl : (allL o).length = s.size := by omega
  have e : (objT o.1 o.2.1 o.2.2).data.toList = s.data.toList := by
    rw [objT_list]
    have hz : s.data.toList.drop (0 + (allL o).length) = [] := List.drop_of_length_le (by simp; omega)
    rw [hz] at hd
    simpa using hd.symm
  have e2 : objT o.1 o.2.1 o.2.2 = s := by
    apply ByteArray.ext
    exact Array.toList_inj.1 e
  unfold objU
  rw [e2, if_neg (by omega)]
theorem read_SP {s : ByteArray} {o : objE} (hs : s.size ≤ 8000) (h : readS s o) : readP s o := by
  obtain ⟨⟨q, h1⟩, h2, h3⟩ := h
  refine ⟨?_, h2⟩
  obtain ⟨g1, g2, g3⟩ := obj_nums h2
  have hne : 0 < s.size := by
    rcases Nat.eq_zero_or_pos s.size with h0 | h0
    · exfalso
      have e : pN s 0 = none := by
        have : getN s 0 = (0, 0, 4) := (if_neg (by omega)).trans (if_pos (by omega))
        unfold pN; rw [this]; rfl
      unfold sAll seqP sRow at h1
      rw [e] at h1
      simp at h1
    · exact h0
  unfold objU at h3
  split at h3
  · subst h3; exact absurd hne (by decide)
  · have hl : s.data.toList.drop 0 = allL o ++ [] := by rw [← h3, objT_list]; simp
    have hsz : (allL o).length = s.size := by
      have := congrArg List.length hl
      simpa using this.symm
    have hb : ∀ {α : Type} (enc : α → List UInt8) (L : List α), (rowLR enc L).length ≤ 8000 → (∀ a ∈ L, 1 ≤ (enc a).length) → is64 (L.length : Int) := by
      intro α enc L h1 h2
      have : L.length ≤ (L.flatMap enc).length := by
        clear h1
        induction L with
        | nil => simp
        | cons a L ih =>
          have := h2 a (List.mem_cons_self ..)
          have := ih (fun b hb => h2 b (List.mem_cons_of_mem _ hb))
          rw [List.flatMap_cons, List.length_append, List.length_cons]; omega
      unfold rowLR at h1
      rw [List.length_append] at h1
      unfold is64; omega
    have hall : (allL o).length ≤ 8000 := by omega
    unfold allL at hall
    rw [List.length_append, List.length_append] at hall
    have hs1 : ∀ x : symE, 1 ≤ (symL x).length := fun x => by
      have := numL_pos x.2.1
      unfold symL; rw [List.length_append, List.length_append]; omega
    have hr1 : ∀ x : refE, 1 ≤ (refL x).length := fun x => by
      have := numL_pos x.1
      unfold refL; rw [List.length_append]; omega
    have := (codecAll s).put 0 o [] (by omega) ⟨⟨g1, hb numL o.1 (by omega) (fun a _ => numL_pos a)⟩, ⟨fun a ha => ⟨by have := (g2 a ha).1; show a.1.size ≤ 8000; omega, (g2 a ha).2, trivial⟩, hb symL o.2.1 (by omega) (fun a _ => hs1 a)⟩, ⟨fun a ha => ⟨(g3 a ha).2.1, by have := (g3 a ha).1; show a.2.1.size ≤ 8000; omega, (g3 a ha).2.2, trivial⟩, hb refL o.2.2 (by omega) (fun a _ => hr1 a)⟩⟩ hl
    rw [Nat.zero_add, hsz] at this
    exact this
end Go.Proofs.YtnhehdobpibgkaaGreatDoor
