/- What may be written as an Insn: the specification takes just these rows of pieces; both readers answer the same. -/
import Derived.Test.YtodjccipfonaiaaGreatDoorRows
import Derived.WalkKit
import Derived.Test.YtodjccipfonaiaaGreatDoorBun0
import Derived.Test.YtodjccipfonaiaaGreatDoorGramWX
namespace Go.Proofs.YtodjccipfonaiaaGreatDoor
open Go.RowKit
set_option linter.unusedVariables false

theorem solo_of (c : UInt8) (h1 : c.toNat < 128) (h2 : inN (c.toNat : Int) = false) : solo ⟨#[c]⟩ := ⟨c, h1, h2, rfl⟩
theorem ops_name : ∀ s ∈ opsAll, nameB s = true := by decide +kernel
theorem ops_wordy {p : ByteArray} (h : p ∈ opsAll) : wordy p := by
  have h' := name_parts (ops_name p h)
  exact ⟨h'.1, h'.2.2⟩
theorem oper_WP {S L : List ByteArray} {x : OpdV} (h : OpG S x) (hs : soloHead L) (hL : WP L) : WP (S ++ L) := by
  rcases h with ⟨p, n, rfl, hp, rfl⟩ | ⟨p, n, rfl, hp, rfl⟩ | ⟨p, n, rfl, hp, rfl⟩ | ⟨q, r, rfl, hq, rfl⟩ | ⟨q, r, rfl, hq, rfl⟩ | ⟨p, n, q, r, rfl, hp, hq, rfl⟩ | ⟨q, r, rfl, hq, rfl⟩
  · exact .inl ⟨solo_of 38 (by decide) (by decide), .inr ⟨numW_wordy hp, hs, hL⟩⟩
  · exact .inl ⟨solo_of 35 (by decide) (by decide), .inr ⟨numW_wordy hp, hs, hL⟩⟩
  · exact .inl ⟨solo_of 35 (by decide) (by decide), .inl ⟨solo_of 35 (by decide) (by decide), .inr ⟨numW_wordy hp, hs, hL⟩⟩⟩
  · exact .inl ⟨solo_of 64 (by decide) (by decide), .inr ⟨isReg_w hq, hs, hL⟩⟩
  · exact .inl ⟨solo_of 64 (by decide) (by decide), .inr ⟨isReg_w hq, solo_of 43 (by decide) (by decide), .inl ⟨solo_of 43 (by decide) (by decide), hL⟩⟩⟩
  · exact .inr ⟨numW_wordy hp, solo_of 40 (by decide) (by decide), .inl ⟨solo_of 40 (by decide) (by decide), .inr ⟨isReg_w hq, solo_of 41 (by decide) (by decide), .inl ⟨solo_of 41 (by decide) (by decide), hL⟩⟩⟩⟩
  · exact .inr ⟨isReg_w hq, hs, hL⟩
theorem op_WP {B L : List ByteArray} {p : ByteArray} {b : Bool} (h : OpNG B p b) (hs : soloHead L) (hL : WP L) : WP (B ++ L) := by
  obtain ⟨hp, rfl⟩ := h
  cases b
  · exact .inr ⟨ops_wordy hp, hs, hL⟩
  · refine .inr ⟨ops_wordy hp, solo_of 46 (by decide) (by decide), .inl ⟨solo_of 46 (by decide) (by decide), .inr ⟨⟨by decide, ?_⟩, hs, hL⟩⟩⟩
    exact mem_all (by decide +kernel)
theorem gram_WP {P : List ByteArray} {i : Ins} (h : InsG P i) : WP P := by
  obtain ⟨B, p, b, Q, hB, hA, rfl⟩ := h
  rcases hA with ⟨h2, S, D, K, x, y, gS, gD, hK, rfl, rfl⟩ | ⟨h2, h3, hr, S, x, gS, rfl, rfl⟩ | ⟨hr, rfl, rfl⟩ | ⟨h2, h3, hr, c, q, n, hc, hq, hm, rfl, rfl⟩
  · have hD : WP D := by have := oper_WP gD (L := []) trivial trivial; rw [List.append_nil] at this; exact this
    have hKD : WP (K ++ D) := by
      rcases hK with rfl | rfl
      · exact hD
      · exact .inl ⟨solo_of 32 (by decide) (by decide), hD⟩
    exact op_WP hB (solo_of 32 (by decide) (by decide)) (.inl ⟨solo_of 32 (by decide) (by decide), oper_WP gS (solo_of 44 (by decide) (by decide)) (.inl ⟨solo_of 44 (by decide) (by decide), hKD⟩)⟩)
  · have hS : WP S := by have := oper_WP gS (L := []) trivial trivial; rw [List.append_nil] at this; exact this
    exact op_WP hB (solo_of 32 (by decide) (by decide)) (.inl ⟨solo_of 32 (by decide) (by decide), hS⟩)
  · exact op_WP hB trivial trivial
  · have hcs : solo ⟨#[c]⟩ := by
      refine solo_of c (by omega) ?_
      rcases hc with hc | hc <;> rw [hc] <;> decide
    exact op_WP hB (solo_of 32 (by decide) (by decide)) (.inl ⟨solo_of 32 (by decide) (by decide), .inl ⟨solo_of 36 (by decide) (by decide), .inl ⟨hcs, .inr ⟨numW_wordy hq, trivial, trivial⟩⟩⟩⟩)
theorem free_cat (c : Nat) : ∀ (L : List ByteArray), (∀ p ∈ L, freeOf c p) → freeOf c (catL L)
  | [], _ => fun x hx => by
    have e : (catL []).data.toList = [] := rfl
    rw [e] at hx
    cases hx
  | p :: L, h => free_app (h p (List.mem_cons_self ..)) (free_cat c L (fun q hq => h q (List.mem_cons_of_mem _ hq)))
theorem oper_free {S : List ByteArray} {x : OpdV} (h : OpG S x) (c : Nat) (hc : inN (c : Int) = false) (hm : ¬ 38 = c ∧ ¬ 35 = c ∧ ¬ 64 = c ∧ ¬ 43 = c ∧ ¬ 40 = c ∧ ¬ 41 = c) : freeOf c (catL S) := by
  obtain ⟨h1, h2, h3, h4, h5, h6⟩ := hm
  apply free_cat
  rcases h with ⟨p, n, rfl, hp, rfl⟩ | ⟨p, n, rfl, hp, rfl⟩ | ⟨p, n, rfl, hp, rfl⟩ | ⟨q, r, rfl, hq, rfl⟩ | ⟨q, r, rfl, hq, rfl⟩ | ⟨p, n, q, r, rfl, hp, hq, rfl⟩ | ⟨q, r, rfl, hq, rfl⟩
  all_goals
    intro z hz
    simp only [List.mem_cons, List.not_mem_nil, or_false] at hz
  · rcases hz with rfl | rfl
    · exact free_one h1
    · exact free_wordy (numW_wordy hp) hc
  · rcases hz with rfl | rfl
    · exact free_one h2
    · exact free_wordy (numW_wordy hp) hc
  · rcases hz with rfl | rfl | rfl
    · exact free_one h2
    · exact free_one h2
    · exact free_wordy (numW_wordy hp) hc
  · rcases hz with rfl | rfl
    · exact free_one h3
    · exact free_wordy (isReg_w hq) hc
  · rcases hz with rfl | rfl | rfl
    · exact free_one h3
    · exact free_wordy (isReg_w hq) hc
    · exact free_one h4
  · rcases hz with rfl | rfl | rfl | rfl
    · exact free_wordy (numW_wordy hp) hc
    · exact free_one h5
    · exact free_wordy (isReg_w hq) hc
    · exact free_one h6
  · subst hz
    exact free_wordy (isReg_w hq) hc
theorem op_free {B : List ByteArray} {p : ByteArray} {b : Bool} (h : OpNG B p b) : freeOf 32 (catL B) := by
  obtain ⟨hp, rfl⟩ := h
  apply free_cat
  cases b
  · intro z hz
    have e : z = p := by simpa using hz
    rw [e]
    exact free_wordy (ops_wordy hp) (by decide)
  · intro z hz
    have e : z = p ∨ z = ⟨#[46]⟩ ∨ z = ⟨#[98]⟩ := by simpa using hz
    rcases e with rfl | rfl | rfl
    · exact free_wordy (ops_wordy hp) (by decide)
    · exact free_one (by decide)
    · exact free_one (by decide)
/- The operation of what is written. -/
theorem opPart_of {B : List ByteArray} {p R u : ByteArray} {b : Bool} (h : OpNG B p b) (hu : u = catL B ++ R) (hi : idxI 32 u = (catL B).size) : opPart u = (p, b) := by
  obtain ⟨hp, rfl⟩ := h
  have hw := ops_wordy hp
  cases b
  · have e : catL (if false = true then [p, ⟨#[46]⟩, ⟨#[98]⟩] else [p]) = p := catL_one p
    rw [e] at hu hi
    have h0 : u.extract 0 p.size = p := by
      apply ba_list
      rw [take_list, hu, app_list, ← size_list, List.take_left]
    unfold opPart
    rw [hi, if_neg, h0]
    rintro ⟨h2, h3⟩
    have e2 := ext_list u (p.size - 2) p.size
    rw [h3, hu, app_list, List.drop_append_of_le_length (by rw [size_list]; omega), List.take_append_of_le_length (by rw [List.length_drop, size_list]; omega)] at e2
    have hm : (46 : UInt8) ∈ p.data.toList := by
      have h5 : (46 : UInt8) ∈ (p.data.toList.drop (p.size - 2)).take (p.size - (p.size - 2)) := by
        rw [← e2]
        decide
      exact List.mem_of_mem_drop (List.mem_of_mem_take h5)
    have := all_mem hw.2 _ hm
    exact absurd this (by decide)
  · have e : catL (if true = true then [p, ⟨#[46]⟩, ⟨#[98]⟩] else [p]) = p ++ ⟨#[46, 98]⟩ := by
      have e2 : catL (if true = true then [p, ⟨#[46]⟩, ⟨#[98]⟩] else [p]) = catL [p, ⟨#[46]⟩, ⟨#[98]⟩] := rfl
      rw [e2, catL_three]
      rfl
    rw [e] at hu hi
    have hs : (p ++ ⟨#[46, 98]⟩ : ByteArray).size = p.size + 2 := by rw [ByteArray.size_append]; rfl
    rw [hs] at hi
    have h0 : u.extract 0 p.size = p := by
      apply ba_list
      rw [take_list, hu, app_list, app_list, List.append_assoc, ← size_list, List.take_left]
    have h1 : u.extract p.size (p.size + 2) = ⟨#[46, 98]⟩ := mid_ba p ⟨#[46, 98]⟩ R u (by rw [hu, ByteArray.append_assoc])
    unfold opPart
    rw [hi, show p.size + 2 - 2 = p.size by omega, if_pos ⟨by have := hw.1; omega, h1⟩, h0]
theorem ops_class : ∀ s ∈ opsAll, 0 ≤ atI opsAll s ∧ (0 ≤ atI twosL s → atI opsAll s < 12) ∧ (¬ 0 ≤ atI twosL s → 0 ≤ atI onesL s → ¬ s = reti → ¬ atI opsAll s < 12 ∧ atI opsAll s < 18) ∧ (s = reti → ¬ atI opsAll s < 12 ∧ atI opsAll s = 18) ∧ (¬ 0 ≤ atI twosL s → ¬ 0 ≤ atI onesL s → ¬ atI opsAll s < 12 ∧ ¬ atI opsAll s < 18 ∧ ¬ atI opsAll s = 18) := by decide +kernel
theorem ops_back1 : ∀ s ∈ opsAll, (atI opsAll s < 12 → 0 ≤ atI twosL s) ∧ (¬ atI opsAll s < 12 → atI opsAll s < 18 → ¬ 0 ≤ atI twosL s ∧ 0 ≤ atI onesL s ∧ ¬ s = reti) := by decide +kernel
theorem ops_back2 : ∀ s ∈ opsAll, (atI opsAll s = 18 → s = reti) ∧ (¬ atI opsAll s < 18 → ¬ atI opsAll s = 18 → ¬ 0 ≤ atI twosL s ∧ ¬ 0 ≤ atI onesL s ∧ ¬ s = reti) := by decide +kernel
theorem ops_back (s : ByteArray) (h : s ∈ opsAll) : (atI opsAll s < 12 → 0 ≤ atI twosL s) ∧ (¬ atI opsAll s < 12 → atI opsAll s < 18 → ¬ 0 ≤ atI twosL s ∧ 0 ≤ atI onesL s ∧ ¬ s = reti) ∧ (¬ atI opsAll s < 12 → ¬ atI opsAll s < 18 → atI opsAll s = 18 → s = reti) ∧ (¬ atI opsAll s < 12 → ¬ atI opsAll s < 18 → ¬ atI opsAll s = 18 → ¬ 0 ≤ atI twosL s ∧ ¬ 0 ≤ atI onesL s ∧ ¬ s = reti) :=
  ⟨(ops_back1 s h).1, (ops_back1 s h).2, fun _ _ => (ops_back2 s h).1, fun _ => (ops_back2 s h).2⟩
theorem jumpR_nil : jumpR ⟨#[]⟩ = none := by decide
theorem noBlank_no {u : ByteArray} (h : freeOf 32 u) : noBlank u = u := by
  unfold noBlank
  rw [if_neg]
  intro e
  have : (32 : UInt8) ∈ u.data.toList := by
    cases hu : u.data.toList with
    | nil => rw [hu] at e; cases e
    | cons c L => rw [hu] at e; cases e; exact List.mem_cons_self ..
  exact h _ this rfl
theorem noBlank_yes (u : ByteArray) : noBlank (⟨#[32]⟩ ++ u) = u := by
  unfold noBlank
  rw [if_pos (by rw [app_list]; rfl), tail_one]
theorem noBlank_is (u : ByteArray) : noBlank u = u ∨ u = ⟨#[32]⟩ ++ noBlank u := by
  unfold noBlank
  split
  · rename_i h
    right
    have h1 : 1 ≤ u.size := by
      rcases Nat.eq_zero_or_pos u.size with h0 | h0
      · rw [List.eq_nil_of_length_eq_zero (by rw [size_list]; exact h0 : u.data.toList.length = 0)] at h; cases h
      · exact h0
    exact cons_head u h1 32 (by unfold headB; rw [List.headD_eq_head?_getD, h]; rfl)
  · exact .inl rfl
theorem jumpR_of {c : UInt8} {q : ByteArray} {n : Int} (hc : c.toNat = 43 ∨ c.toNat = 45) (hq : numW q = some n) (hm : n % 2 = 0) : jumpR (⟨#[36]⟩ ++ (⟨#[c]⟩ ++ q)) = some ((sgn c * n - 2).tdiv 2) := by
  have hl : ((⟨#[36]⟩ : ByteArray) ++ (⟨#[c]⟩ ++ q)).data.toList = 36 :: c :: q.data.toList := by rw [app_list, app_list]; rfl
  have hw := numW_wordy hq
  have hs : ((⟨#[36]⟩ : ByteArray) ++ (⟨#[c]⟩ ++ q)).size = q.size + 2 := by rw [← size_list, hl]; simp
  have hx : ((⟨#[36]⟩ : ByteArray) ++ (⟨#[c]⟩ ++ q)).extract 2 ((⟨#[36]⟩ : ByteArray) ++ (⟨#[c]⟩ ++ q)).size = q := by
    apply ba_list
    rw [drop_list, hl]
    rfl
  generalize ((⟨#[36]⟩ : ByteArray) ++ (⟨#[c]⟩ ++ q)) = u at *
  have h3 : 3 ≤ u.size := by have := hw.1; omega
  have e0 : u[0]'(by omega) = 36 := by
    have e : u.data.toList[0]'(by rw [hl]; simp) = u[0]'(by omega) := rfl
    rw [← e]; simp only [hl]; rfl
  have e1 : u[1]'(by omega) = c := by
    have e : u.data.toList[1]'(by rw [hl]; simp) = u[1]'(by omega) := rfl
    rw [← e]; simp only [hl]; rfl
  unfold jumpR
  rw [dif_pos h3, e0, e1, if_pos ⟨rfl, hc⟩, hx, hq]
  dsimp only
  rw [if_pos hm, signed_mul]
theorem jumpR_is {u : ByteArray} {j : Int} (h : jumpR u = some j) : ∃ c q n, (c.toNat = 43 ∨ c.toNat = 45) ∧ numW q = some n ∧ n % 2 = 0 ∧ u = ⟨#[36]⟩ ++ (⟨#[c]⟩ ++ q) ∧ j = (sgn c * n - 2).tdiv 2 := by
  unfold jumpR at h
  split at h
  · rename_i h3
    split at h
    · rename_i hc
      split at h
      · rename_i n hn
        split at h
        · rename_i hm
          cases h
          refine ⟨u[1], u.extract 2 u.size, n, hc.2, hn, hm, ?_, by rw [signed_mul]⟩
          apply ba_list
          have hl0 : u[0] = 36 := UInt8.toNat_inj.1 hc.1
          rw [app_list, app_list, drop_list]
          have d0 := drop_at u 0 (by omega)
          have d1 := drop_at u 1 (by omega)
          rw [List.drop_zero] at d0
          rw [d0, d1, hl0]
          rfl
        · cases h
      · cases h
    · cases h
  · cases h
/- The specification takes what is written so. -/
theorem gram_read {P : List ByteArray} {i : Ins} (h : InsG P i) : ∃ s d, readR (catL P) = some (i, s, d) ∧ namedR s = false ∧ namedR d = false := by
  obtain ⟨B, p, b, Q, hB, hA, rfl⟩ := h
  obtain ⟨k0, k1, k2, k3, k4⟩ := ops_class p hB.1
  have hfree := op_free hB
  rw [catL_append]
  have blank : ∀ R : ByteArray, opPart (catL B ++ (⟨#[32]⟩ ++ R)) = (p, b) ∧ restP (catL B ++ (⟨#[32]⟩ ++ R)) = R ∧ ¬ idxI 32 (catL B ++ (⟨#[32]⟩ ++ R)) = (catL B ++ (⟨#[32]⟩ ++ R)).size := fun R => by
    have hi := idxI_app hfree 32 rfl R
    have hsz := tri_size (catL B) R 32
    refine ⟨opPart_of hB rfl hi, ?_, by omega⟩
    unfold restP
    rw [hi, if_pos (by omega), tri_right]
  rcases hA with ⟨h2, S, D, K, x, y, gS, gD, hK, rfl, rfl⟩ | ⟨h2, h3, hr, S, x, gS, rfl, rfl⟩ | ⟨hr, rfl, rfl⟩ | ⟨h2, h3, hr, c, q, n, hc, hq, hm, rfl, rfl⟩
  · have e : catL (⟨#[32]⟩ :: (S ++ ⟨#[44]⟩ :: (K ++ D))) = ⟨#[32]⟩ ++ (catL S ++ (⟨#[44]⟩ ++ catL (K ++ D))) := by
      show ⟨#[32]⟩ ++ catL (S ++ ⟨#[44]⟩ :: (K ++ D)) = _
      rw [catL_append]
      rfl
    rw [e]
    obtain ⟨b1, b2, b3⟩ := blank (catL S ++ (⟨#[44]⟩ ++ catL (K ++ D)))
    obtain ⟨v, hv, nv⟩ := gram_spec gS
    obtain ⟨v2, hv2, nv2⟩ := gram_spec gD
    refine ⟨v, v2, ?_, nv, nv2⟩
    have hsp : splitR (catL S ++ (⟨#[44]⟩ ++ catL (K ++ D))) = (catL S, catL D, true) := by
      have hi := idxI_app (oper_free gS 44 (by decide) (by decide)) 44 rfl (catL (K ++ D))
      have hsz := tri_size (catL S) (catL (K ++ D)) 44
      have hb : noBlank (catL (K ++ D)) = catL D := by
        rcases hK with rfl | rfl
        · exact noBlank_no (oper_free gD 32 (by decide) (by decide))
        · exact noBlank_yes (catL D)
      unfold splitR
      rw [hi, if_pos (by omega), tri_left, tri_right, hb]
    unfold readR
    rw [b1, b2]
    unfold readO
    rw [if_neg (show ¬ atI opsAll p < 0 by omega), if_pos (k1 h2), hsp]
    show twoM p b (opndR (catL S)) (opndR (catL D)) true = _
    rw [hv, hv2]
    rfl
  · have e : catL (⟨#[32]⟩ :: S) = ⟨#[32]⟩ ++ catL S := rfl
    rw [e]
    obtain ⟨b1, b2, b3⟩ := blank (catL S)
    obtain ⟨v, hv, nv⟩ := gram_spec gS
    refine ⟨v, ⟨#[]⟩, ?_, nv, named_nil⟩
    obtain ⟨m1, m2⟩ := k2 h2 h3 hr
    unfold readR
    rw [b1, b2]
    unfold readO
    rw [if_neg (show ¬ atI opsAll p < 0 by omega), if_neg m1, if_pos m2, hv]
    rfl
  · refine ⟨⟨#[]⟩, ⟨#[]⟩, ?_, named_nil, named_nil⟩
    have e : catL B ++ catL [] = catL B := by show catL B ++ ByteArray.empty = _; rw [ByteArray.append_empty]
    have hi := idxI_none hfree
    have b1 := opPart_of hB (u := catL B) (R := ⟨#[]⟩) (by show _ = catL B ++ ByteArray.empty; rw [ByteArray.append_empty]) hi
    obtain ⟨m1, m2⟩ := k3 hr
    rw [e]
    unfold readR
    rw [b1]
    unfold readO
    rw [if_neg (show ¬ atI opsAll p < 0 by omega), if_neg m1, if_neg (show ¬ atI opsAll p < 18 by omega), if_pos m2, decide_eq_true hi]
    rfl
  · have e : catL [⟨#[32]⟩, ⟨#[36]⟩, ⟨#[c]⟩, q] = ⟨#[32]⟩ ++ (⟨#[36]⟩ ++ (⟨#[c]⟩ ++ q)) := catL_four ..
    rw [e]
    obtain ⟨b1, b2, b3⟩ := blank (⟨#[36]⟩ ++ (⟨#[c]⟩ ++ q))
    refine ⟨⟨#[]⟩, ⟨#[]⟩, ?_, named_nil, named_nil⟩
    obtain ⟨m1, m2, m3⟩ := k4 h2 h3
    unfold readR
    rw [b1, b2]
    unfold readO
    rw [if_neg (show ¬ atI opsAll p < 0 by omega), if_neg m1, if_neg m2, if_neg m3, jumpR_of hc hq hm]
    rfl
theorem opPart_gram (u : ByteArray) (h : (opPart u).1 ∈ opsAll) : ∃ B, OpNG B (opPart u).1 (opPart u).2 ∧ u.extract 0 (idxI 32 u) = catL B := by
  unfold opPart at h ⊢
  split
  · rename_i hc
    rw [if_pos hc] at h
    refine ⟨_, ⟨h, rfl⟩, ?_⟩
    have e := ext_app u (idxI 32 u - 2) (idxI 32 u) (by omega)
    rw [hc.2] at e
    have e2 : catL (if true = true then [u.extract 0 (idxI 32 u - 2), ⟨#[46]⟩, ⟨#[98]⟩] else [u.extract 0 (idxI 32 u - 2)]) = catL [u.extract 0 (idxI 32 u - 2), ⟨#[46]⟩, ⟨#[98]⟩] := rfl
    show _ = catL (if true = true then [u.extract 0 (idxI 32 u - 2), ⟨#[46]⟩, ⟨#[98]⟩] else [u.extract 0 (idxI 32 u - 2)])
    rw [e2, catL_three, ← e]
    rfl
  · rename_i hc
    rw [if_neg hc] at h
    exact ⟨_, ⟨h, rfl⟩, (catL_one _).symm⟩
/- What the specification takes is written so. -/
theorem read_gram {u s d : ByteArray} {i : Ins} (h : readR u = some (i, s, d)) (hs : namedR s = false) (hd : namedR d = false) : ∃ P, u = catL P ∧ InsG P i := by
  unfold readR at h
  have h0 : ¬ atI opsAll (opPart u).1 < 0 := by
    intro k
    unfold readO at h
    rw [if_pos k] at h
    cases h
  have hin : (opPart u).1 ∈ opsAll := atI_mem (by omega)
  obtain ⟨B, hB, eB⟩ := opPart_gram u hin
  obtain ⟨k1, k2, k3, k4⟩ := ops_back _ hin
  generalize (opPart u).1 = p at *
  generalize (opPart u).2 = b at *
  unfold readO at h
  rw [if_neg h0] at h
  have hne : opndR ⟨#[]⟩ = none := by unfold opndR; rw [if_pos rfl]
  have whole : ¬ idxI 32 u < u.size → restP u = ⟨#[]⟩ ∧ u = catL B := fun hn => by
    have hi : idxI 32 u = u.size := by have := idx_le 32 u; omega
    refine ⟨by unfold restP; rw [if_neg hn], ?_⟩
    rw [hi] at eB
    rw [← eB]
    apply ba_list
    rw [take_list, List.take_of_length_le (by rw [size_list]; exact Nat.le_refl _)]
  have part : idxI 32 u < u.size → u = catL B ++ (⟨#[32]⟩ ++ restP u) := fun hn => by
    obtain ⟨c, hc, e⟩ := idxI_lt hn
    have hc' : c = 32 := UInt8.toNat_inj.1 hc
    subst hc'
    unfold restP
    rw [if_pos hn, ← eB]
    exact e
  generalize restP u = R at *
  split at h
  · rename_i h12
    unfold twoM at h
    split at h
    · rename_i x y hx hy ht
      obtain ⟨x, v⟩ := x
      obtain ⟨y, v2⟩ := y
      cases h
      by_cases hn : idxI 32 u < u.size
      · unfold splitR at hx hy ht
        split at hx
        · rename_i h44
          rw [if_pos h44] at hy
          obtain ⟨c, hc, e⟩ := idxI_lt h44
          have hc' : c = 44 := UInt8.toNat_inj.1 hc
          subst hc'
          dsimp only at hx hy
          obtain ⟨S, eS, gS⟩ := spec_gram hx hs
          obtain ⟨D, eD, gD⟩ := spec_gram hy hd
          rw [eS] at e
          rcases noBlank_is (R.extract (idxI 44 R + 1) R.size) with e3 | e3
          · rw [e3] at eD
            refine ⟨B ++ ⟨#[32]⟩ :: (S ++ ⟨#[44]⟩ :: ([] ++ D)), ?_, B, p, b, _, hB, .inl ⟨k1 h12, S, D, [], x, y, gS, gD, .inl rfl, rfl, rfl⟩, rfl⟩
            rw [part hn, catL_append]
            show _ = catL B ++ (⟨#[32]⟩ ++ catL (S ++ ⟨#[44]⟩ :: D))
            rw [catL_append]
            show _ = catL B ++ (⟨#[32]⟩ ++ (catL S ++ (⟨#[44]⟩ ++ catL D)))
            rw [← eD, ← e]
          · rw [eD] at e3
            refine ⟨B ++ ⟨#[32]⟩ :: (S ++ ⟨#[44]⟩ :: ([⟨#[32]⟩] ++ D)), ?_, B, p, b, _, hB, .inl ⟨k1 h12, S, D, [⟨#[32]⟩], x, y, gS, gD, .inr rfl, rfl, rfl⟩, rfl⟩
            rw [part hn, catL_append]
            show _ = catL B ++ (⟨#[32]⟩ ++ catL (S ++ ⟨#[44]⟩ :: ⟨#[32]⟩ :: D))
            rw [catL_append]
            show _ = catL B ++ (⟨#[32]⟩ ++ (catL S ++ (⟨#[44]⟩ ++ (⟨#[32]⟩ ++ catL D))))
            rw [← e3, ← e]
        · rename_i h44
          rw [if_neg h44] at ht
          cases ht
      · obtain ⟨e1, _⟩ := whole hn
        subst e1
        exact absurd ht (by decide)
    · cases h
  split at h
  · rename_i h12 h18
    obtain ⟨m1, m2, m3⟩ := k2 h12 h18
    unfold oneM at h
    split at h
    · rename_i x hx
      obtain ⟨x, v⟩ := x
      cases h
      by_cases hn : idxI 32 u < u.size
      · obtain ⟨S, eS, gS⟩ := spec_gram hx hs
        refine ⟨B ++ ⟨#[32]⟩ :: S, ?_, B, p, b, _, hB, .inr (.inl ⟨m1, m2, m3, S, x, gS, rfl, rfl⟩), rfl⟩
        rw [part hn, catL_append, eS]
        rfl
      · obtain ⟨e1, _⟩ := whole hn
        rw [e1, hne] at hx
        cases hx
    · cases h
  split at h
  · rename_i h12 h18 h8
    split at h
    · rename_i hw
      cases h
      have hi := of_decide_eq_true hw
      obtain ⟨_, e2⟩ := whole (by omega)
      exact ⟨B ++ [], by rw [List.append_nil]; exact e2, B, p, b, [], hB, .inr (.inr (.inl ⟨k3 h12 h18 h8, rfl, rfl⟩)), rfl⟩
    · cases h
  · rename_i h12 h18 h8
    obtain ⟨m1, m2, m3⟩ := k4 h12 h18 h8
    unfold jumpM at h
    split at h
    · rename_i j hj
      cases h
      by_cases hn : idxI 32 u < u.size
      · obtain ⟨c, q, n, hc, hq, hm, e, rfl⟩ := jumpR_is hj
        refine ⟨B ++ [⟨#[32]⟩, ⟨#[36]⟩, ⟨#[c]⟩, q], ?_, B, p, b, _, hB, .inr (.inr (.inr ⟨m1, m2, m3, c, q, n, hc, hq, hm, rfl, rfl⟩)), rfl⟩
        rw [part hn, catL_append, catL_four, e]
      · obtain ⟨e1, _⟩ := whole hn
        rw [e1, jumpR_nil] at hj
        cases hj
    · cases h
end Go.Proofs.YtodjccipfonaiaaGreatDoor
