/- A hex text with one digit turned is none. -/
import Derived.Test.YtfmeickglipimaaDoorRows
import Derived.WalkKit
import Derived.Test.YtfmeickglipimaaDoorHexQ2
namespace Go.Proofs.YtfmeickglipimaaDoor
open Go.RowKit
set_option linter.unusedVariables false

def goodL (l : List UInt8) : Prop := ∃ r cs, l = 58 :: r ∧ pairsD r = some cs ∧ sumB cs % 256 = 0
theorem good_line (bs : List Int) (h : bytesB bs) : goodL (lineL (bs ++ [ckB bs])) := by
  refine ⟨_, _, rfl, pairsD_hexs _ (bytes_snoc h), ?_⟩
  rw [sumB_append]
  simp [sumB, ckB]
  omega
theorem good_end : goodL endB := ⟨_, [0, 0, 0, 1, 255], rfl, by rfl, by decide⟩
theorem good_lines {b : Int} {L : List Int} (h : hexB b L = true) (i : Nat) (hi : i < (splitL (hexT b L).data.toList).length) (hne : (splitL (hexT b L).data.toList)[i] ≠ []) : goodL (splitL (hexT b L).data.toList)[i] := by
  have hm := List.getElem_mem hi
  generalize hx : (splitL (hexT b L).data.toList)[i] = x at *
  rw [split_text h] at hm
  rcases List.mem_append.1 hm with hm | hm
  · unfold bodies at hm
    obtain ⟨k, hk, rfl⟩ := List.mem_map.1 hm
    exact good_line _ (ok_row h k (List.mem_range.1 hk)).1
  · simp at hm
    rcases hm with rfl | rfl
    · exact good_end
    · exact absurd rfl hne
theorem splitL_set : ∀ (t : List UInt8) (p : Nat) (c : UInt8) (h : p < t.length), t[p] ≠ 10 → c ≠ 10 → ∃ i j, ∃ hi : i < (splitL t).length, ∃ hj : j < (splitL t)[i].length, (splitL t)[i][j] = t[p] ∧ splitL (t.set p c) = (splitL t).set i ((splitL t)[i].set j c)
  | b :: l, 0, c, h, hb, hc => by
    have hb' : ¬ b = 10 := by simpa using hb
    cases hs : splitL l with
    | nil => have := splitL_pos l; rw [hs] at this; simp at this
    | cons x r =>
      have e1 : splitL (b :: l) = (b :: x) :: r := by rw [splitL, if_neg hb', hs]
      have e2 : splitL (c :: l) = (c :: x) :: r := by rw [splitL, if_neg hc, hs]
      refine ⟨0, 0, by rw [e1]; simp, by simp [e1], by simp [e1], ?_⟩
      simp [e1, e2]
  | b :: l, p + 1, c, h, hb, hc => by
    have hp : p < l.length := by simpa using h
    obtain ⟨i, j, hi, hj, e, f⟩ := splitL_set l p c hp (by simpa using hb) hc
    by_cases hb' : b = 10
    · have e1 : splitL (b :: l) = [] :: splitL l := by rw [splitL, if_pos hb']
      have e2 : splitL (b :: l.set p c) = [] :: splitL (l.set p c) := by rw [splitL, if_pos hb']
      refine ⟨i + 1, j, by rw [e1]; simpa using hi, by simpa [e1] using hj, by simpa [e1] using e, ?_⟩
      rw [List.set_cons_succ, e2, f]
      simp [e1]
    · cases hs : splitL l with
      | nil => have := splitL_pos l; rw [hs] at this; simp at this
      | cons x r =>
        have e1 : splitL (b :: l) = (b :: x) :: r := by rw [splitL, if_neg hb', hs]
        have e2 : splitL (b :: l.set p c) = match splitL (l.set p c) with | [] => [[b]] | x :: r => (b :: x) :: r := by rw [splitL, if_neg hb']; rfl
        match i, hi, hj, e, f with
        | 0, hi, hj, e, f =>
          simp only [hs, List.getElem_cons_zero, List.set_cons_zero] at hj e f
          refine ⟨0, j + 1, by rw [e1]; simp, by simpa [e1] using hj, by simpa [e1] using e, ?_⟩
          rw [List.set_cons_succ, e2, f]
          simp [e1]
        | i + 1, hi, hj, e, f =>
          simp only [hs, List.getElem_cons_succ, List.set_cons_succ] at hj e f
          refine ⟨i + 1, j, by rw [e1]; simpa [hs] using hi, by simpa [e1] using hj, by simpa [e1] using e, ?_⟩
          rw [List.set_cons_succ, e2, f]
          simp [e1]
theorem pairsD_dig : ∀ (r : List UInt8) (cs : List Int) (j : Nat) (h : j < r.length), pairsD r = some cs → sdig r[j] ≤ 15
  | [_], cs, j, h, e => by cases e
  | a :: b :: r, cs, j, h, e => by
    unfold pairsD at e
    split at e
    · cases e
    · rename_i hb
      cases hp : pairsD r with
      | none => rw [hp] at e; cases e
      | some R =>
        match j, h with
        | 0, _ => show sdig a ≤ 15; omega
        | 1, _ => show sdig b ≤ 15; omega
        | j + 2, h => exact pairsD_dig r R j (by simpa using h) hp
theorem pairsD_set : ∀ (r : List UInt8) (cs cs' : List Int) (j : Nat) (c : UInt8) (h : j < r.length), pairsD r = some cs → pairsD (r.set j c) = some cs' → ∃ k : Int, (k = 1 ∨ k = 16) ∧ sumB cs' = sumB cs + k * (sdig c - sdig r[j])
  | [_], cs, cs', j, c, h, e, f => by cases e
  | a :: b :: r, cs, cs', j, c, h, e, f => by
    unfold pairsD at e
    split at e
    · cases e
    · rename_i hb
      cases hp : pairsD r with
      | none => rw [hp] at e; cases e
      | some R =>
        rw [hp] at e
        cases e
        match j, h, f with
        | 0, _, f =>
          simp only [List.set_cons_zero] at f
          unfold pairsD at f
          split at f
          · cases f
          · rw [hp] at f
            cases f
            refine ⟨16, .inr rfl, ?_⟩
            simp [sumB]
            omega
        | 1, _, f =>
          simp only [List.set_cons_succ, List.set_cons_zero] at f
          unfold pairsD at f
          split at f
          · cases f
          · rw [hp] at f
            cases f
            refine ⟨1, .inl rfl, ?_⟩
            simp [sumB]
            omega
        | j + 2, h, f =>
          simp only [List.set_cons_succ] at f
          unfold pairsD at f
          split at f
          · cases f
          · cases hq : pairsD (r.set j c) with
            | none => rw [hq] at f; cases f
            | some Q =>
              rw [hq] at f
              cases f
              obtain ⟨k, hk, hs⟩ := pairsD_set r R Q j c (by simpa using h) hp hq
              refine ⟨k, hk, ?_⟩
              simp [sumB]
              omega
/- A byte of a hex text that is no line feed and no colon is a digit; another digit in its place: refused. -/
theorem digit_in {b : Int} {L : List Int} (h : hexB b L = true) (p : Nat) (hp : p < (hexT b L).data.toList.length) (h10 : (hexT b L).data.toList[p] ≠ 10) (h58 : (hexT b L).data.toList[p] ≠ 58) : sdig (hexT b L).data.toList[p] ≤ 15 := by
  obtain ⟨i, j, hi, hj, e, _⟩ := splitL_set _ p 48 hp h10 (by decide)
  obtain ⟨r, cs, e1, e2, _⟩ := good_lines h i hi (by intro e; rw [e] at hj; simp at hj)
  match j, hj, e with
  | 0, hj, e =>
    exfalso
    apply h58
    rw [← e]
    simp [e1]
  | j + 1, hj, e =>
    rw [← e]
    have hj' : j < r.length := by rw [e1] at hj; simpa using hj
    have := pairsD_dig r cs j hj' e2
    simpa [e1] using this
theorem turned_no {b : Int} {L : List Int} (h : hexB b L = true) (p : Nat) (hp : p < (hexT b L).data.toList.length) (c : UInt8) (hc : c ≠ 10) (h10 : (hexT b L).data.toList[p] ≠ 10) (h58 : (hexT b L).data.toList[p] ≠ 58) (hcd : sdig c ≤ 15) (hne : sdig c ≠ sdig (hexT b L).data.toList[p]) : rdOk (textL ((hexT b L).data.toList.set p c)) = false := by
  cases hok : rdOk (textL ((hexT b L).data.toList.set p c))
  · rfl
  exfalso
  have he := of_decide_eq_true hok
  have hdg := digit_in h p hp h10 h58
  obtain ⟨i, j, hi, hj, e, f⟩ := splitL_set _ p c hp h10 hc
  obtain ⟨r, cs, e1, e2, e3⟩ := good_lines h i hi (by intro e; rw [e] at hj; simp at hj)
  have hs : textL ((hexT b L).data.toList.set p c) ≠ ⟨#[]⟩ := by
    intro h0
    have h1 : (textL ((hexT b L).data.toList.set p c)).data.toList.length = (⟨#[]⟩ : ByteArray).data.toList.length := by rw [h0]
    rw [data_textL, List.length_set] at h1
    have h2 : (⟨#[]⟩ : ByteArray).data.toList.length = 0 := rfl
    omega
  have hB := hexT_ne he hs
  have hd : (hexT (baseT (textL ((hexT b L).data.toList.set p c))) (rdW (textL ((hexT b L).data.toList.set p c)).data.toList)).data.toList = (hexT b L).data.toList.set p c := by rw [he, data_textL]
  have hlen : i < (splitL (hexT (baseT (textL ((hexT b L).data.toList.set p c))) (rdW (textL ((hexT b L).data.toList.set p c)).data.toList)).data.toList).length := by rw [hd, f, List.length_set]; exact hi
  have hg : (splitL (hexT (baseT (textL ((hexT b L).data.toList.set p c))) (rdW (textL ((hexT b L).data.toList.set p c)).data.toList)).data.toList)[i] = (splitL (hexT b L).data.toList)[i].set j c := by
    have : ∀ (A : List (List UInt8)) (h1 : i < A.length), A = (splitL (hexT b L).data.toList).set i ((splitL (hexT b L).data.toList)[i].set j c) → A[i] = (splitL (hexT b L).data.toList)[i].set j c := by
      intro A h1 hA
      subst hA
      simp
    exact this _ hlen (by rw [hd, f])
  obtain ⟨r', cs', g1, g2, g3⟩ := good_lines hB i hlen (by rw [hg]; intro e; have := congrArg List.length e; simp at this; rw [this] at hj; simp at hj)
  rw [hg, e1] at g1
  match j, hj, e, g1 with
  | 0, hj, e, g1 =>
    apply h58
    rw [← e]
    simp [e1]
  | j + 1, hj, e, g1 =>
    have hj' : j < r.length := by rw [e1] at hj; simpa using hj
    have hr : r.set j c = r' := by simpa using g1
    subst hr
    obtain ⟨k, hk, hsum⟩ := pairsD_set r cs cs' j c hj' e2 g2
    have hrj : r[j] = (hexT b L).data.toList[p] := by rw [← e]; simp [e1]
    have d1 := sdig_bd c
    have d2 := sdig_bd r[j]
    rw [← hrj] at hne hdg
    rcases hk with rfl | rfl <;> omega
end Go.Proofs.YtfmeickglipimaaDoor
