/- What may be written as an Insn, as a row of pieces: the program takes just these. -/
import Derived.Test.YtodjccipfonaiaaGreatDoorRows
import Derived.WalkKit
import Derived.Maps.Views
import Derived.Test.YtodjccipfonaiaaGreatDoorBun0
import Derived.Test.YtodjccipfonaiaaGreatDoorBun7
import Derived.Test.YtodjccipfonaiaaGreatDoorTextIX
import Derived.Test.YtodjccipfonaiaaGreatDoorRdOpX
import Derived.Test.YtodjccipfonaiaaGreatDoorBun21
import Derived.Test.YtodjccipfonaiaaGreatDoorInsS8X
import Derived.Test.YtodjccipfonaiaaGreatDoorGramSX
namespace Go.Proofs.YtodjccipfonaiaaGreatDoor
open Go.RowKit
set_option linter.unusedVariables false

theorem has_rowD (k : Nat) (p : ByteArray) (hp : ¬ p = ⟨#[]⟩) : ∀ (R : List ByteArray) (D : DataW Unit) (i : Nat), Maps.IsMap D → (Maps.has (rowD D k R i) (.string p.data.toList) = true ↔ (Maps.has D (.string p.data.toList) = true ∨ p ∈ R)) ∧ Maps.IsMap (rowD D k R i)
  | [], D, i, hD => ⟨by show Maps.has D _ = true ↔ _; simp, hD⟩
  | s :: R, D, i, hD => by
    show (Maps.has (rowD (if s = ⟨#[]⟩ then D else D.put (.string s.data.toList) (encP k i)) k R (i + 1)) _ = true ↔ _) ∧ Maps.IsMap (rowD (if s = ⟨#[]⟩ then D else D.put (.string s.data.toList) (encP k i)) k R (i + 1))
    by_cases hs : s = ⟨#[]⟩
    · rw [if_pos hs]
      obtain ⟨h1, h2⟩ := has_rowD k p hp R D (i + 1) hD
      refine ⟨?_, h2⟩
      rw [h1, List.mem_cons]
      constructor
      · rintro (h | h)
        · exact .inl h
        · exact .inr (.inr h)
      · rintro (h | h | h)
        · exact .inl h
        · exact absurd (h.trans hs) hp
        · exact .inr h
    · rw [if_neg hs]
      obtain ⟨h1, h2⟩ := has_rowD k p hp R (D.put (.string s.data.toList) (encP k i)) (i + 1) (hD.put _ _)
      refine ⟨?_, h2⟩
      rw [h1, List.mem_cons]
      by_cases e : p = s
      · subst e
        have e2 := Maps.has_put_same hD (show WideAt.IsKeyLit (.string p.data.toList) by trivial) (encP k i)
        rw [e2]
        exact ⟨fun _ => .inr (.inl rfl), fun _ => .inl rfl⟩
      · have hne : (Lit.string p.data.toList) ≠ .string s.data.toList := by
          intro h
          exact e (ba_list (Lit.string.inj h))
        rw [Maps.has_put_other hne]
        constructor
        · rintro (h | h)
          · exact .inl h
          · exact .inr (.inr h)
        · rintro (h | h | h)
          · exact .inl h
          · exact absurd h e
          · exact .inr h
theorem names_all : (∀ s ∈ namesL.getD 0 [], s = ⟨#[]⟩ ∨ 0 ≤ atI opsAll s) ∧ (∀ s ∈ namesL.getD 1 [], s = ⟨#[]⟩ ∨ 0 ≤ atI opsAll s) ∧ (∀ s ∈ namesL.getD 2 [], s = ⟨#[]⟩ ∨ 0 ≤ atI opsAll s) ∧ ∀ s ∈ opsAll, 0 ≤ atI (namesL.getD 0 []) s ∨ 0 ≤ atI (namesL.getD 1 []) s ∨ 0 ≤ atI (namesL.getD 2 []) s := by decide +kernel
theorem hasB_nil : hasB ⟨#[]⟩ = false := by kernel_rfl
theorem ops_ne : ∀ s ∈ opsAll, ¬ s = ⟨#[]⟩ := by decide +kernel
theorem hasB_iff (p : ByteArray) : hasB p = true ↔ p ∈ opsAll := by
  by_cases hp : p = ⟨#[]⟩
  · subst hp
    rw [hasB_nil]
    exact ⟨fun h => (by cases h), fun h => absurd rfl (ops_ne _ h)⟩
  · obtain ⟨h0, m0⟩ := has_rowD 0 p hp (namesL.getD 0 []) (.map []) 0 ⟨[], rfl⟩
    obtain ⟨h1, m1⟩ := has_rowD 1 p hp (namesL.getD 1 []) _ 0 m0
    obtain ⟨h2, m2⟩ := has_rowD 2 p hp (namesL.getD 2 []) _ 0 m1
    have e : hasB p = Maps.has (rowD (rowD (rowD (.map []) 0 (namesL.getD 0 []) 0) 1 (namesL.getD 1 []) 0) 2 (namesL.getD 2 []) 0) (.string p.data.toList) := rfl
    rw [e, h2, h1, h0]
    obtain ⟨a0, a1, a2, a3⟩ := names_all
    have e0 : Maps.has (DataW.map [] : DataW Unit) (.string p.data.toList) = false := rfl
    rw [e0]
    constructor
    · rintro (((h | h) | h) | h)
      · cases h
      · exact atI_mem ((a0 p h).resolve_left hp)
      · exact atI_mem ((a1 p h).resolve_left hp)
      · exact atI_mem ((a2 p h).resolve_left hp)
    · intro h
      rcases a3 p h with h | h | h
      · exact .inl (.inl (.inr (atI_mem h)))
      · exact .inl (.inr (atI_mem h))
      · exact .inr (atI_mem h)
def reti : ByteArray := ⟨#[114, 101, 116, 105]⟩
/- What the program's reader takes. -/
abbrev Wri := Ins × ByteArray × ByteArray × ByteArray
def argT (p : ByteArray) (b : Bool) (L : List ByteArray) : Option (Wri × List ByteArray) :=
  if 0 ≤ atI twosL p then mapO (twoT L) (fun y => (insOf p b y.1.1 y.2.1 0, y.1.2.1, y.2.2.1, ⟨#[]⟩))
  else if 0 ≤ atI onesL p then mapO (operT L) (fun y => (insOf p b y.1 noO 0, y.2.1, ⟨#[]⟩, ⟨#[]⟩))
  else mapO (jumpT L) (fun y => match y with | .inl j => (insOf p b noO noO j, ⟨#[]⟩, ⟨#[]⟩, ⟨#[]⟩) | .inr x => (insOf p b noO noO 0, ⟨#[]⟩, ⟨#[]⟩, x.1))
def insnT (L : List ByteArray) : Option (Wri × List ByteArray) := match opT L with
  | none => none
  | some ((p, b), L1) => if p = reti then some ((insOf p b noO noO 0, ⟨#[]⟩, ⟨#[]⟩, ⟨#[]⟩), L1) else if (takeT ⟨#[32]⟩ L1).1 = true then argT p b (takeT ⟨#[32]⟩ L1).2 else none
/- The grammar. -/
def OpNG (B : List ByteArray) (p : ByteArray) (b : Bool) : Prop := p ∈ opsAll ∧ B = if b then [p, ⟨#[46]⟩, ⟨#[98]⟩] else [p]
def ArgG (p : ByteArray) (b : Bool) (P : List ByteArray) (i : Ins) : Prop :=
  (0 ≤ atI twosL p ∧ ∃ S D K x y, OpG S x ∧ OpG D y ∧ (K = [] ∨ K = [⟨#[32]⟩]) ∧ P = ⟨#[32]⟩ :: (S ++ ⟨#[44]⟩ :: (K ++ D)) ∧ i = insOf p b x y 0)
  ∨ (¬ 0 ≤ atI twosL p ∧ 0 ≤ atI onesL p ∧ ¬ p = reti ∧ ∃ S x, OpG S x ∧ P = ⟨#[32]⟩ :: S ∧ i = insOf p b x noO 0)
  ∨ (p = reti ∧ P = [] ∧ i = insOf p b noO noO 0)
  ∨ (¬ 0 ≤ atI twosL p ∧ ¬ 0 ≤ atI onesL p ∧ ¬ p = reti ∧ ∃ c q n, (c.toNat = 43 ∨ c.toNat = 45) ∧ numW q = some n ∧ n % 2 = 0 ∧ P = [⟨#[32]⟩, ⟨#[36]⟩, ⟨#[c]⟩, q] ∧ i = insOf p b noO noO ((sgn c * n - 2).tdiv 2))
def InsG (P : List ByteArray) (i : Ins) : Prop := ∃ B p b Q, OpNG B p b ∧ ArgG p b Q i ∧ P = B ++ Q
theorem ops_at_in : ∀ s ∈ opsAll, 0 ≤ atI opsAll s := by decide +kernel
theorem opT_gram {L L1 : List ByteArray} {p : ByteArray} {b : Bool} (h : opT L = some ((p, b), L1)) : ∃ B, OpNG B p b ∧ L = B ++ L1 := by
  cases L with
  | nil => cases h
  | cons q L =>
    have h' : (if hasB q = true then (if (takeT ⟨#[46]⟩ L).1 = true then (if (takeT ⟨#[98]⟩ (takeT ⟨#[46]⟩ L).2).1 = true then some ((q, true), (takeT ⟨#[98]⟩ (takeT ⟨#[46]⟩ L).2).2) else none) else some ((q, false), L)) else none) = some ((p, b), L1) := h
    split at h'
    · rename_i hq
      have hm := (hasB_iff q).1 hq
      split at h'
      · rename_i h1
        have e1 := takeT_split h1
        generalize (takeT ⟨#[46]⟩ L).2 = L2 at *
        split at h'
        · rename_i h2
          have e2 := takeT_split h2
          generalize (takeT ⟨#[98]⟩ L2).2 = L3 at *
          cases h'
          exact ⟨[p, ⟨#[46]⟩, ⟨#[98]⟩], ⟨hm, rfl⟩, by rw [e1, e2]; rfl⟩
        · cases h'
      · cases h'
        exact ⟨[p], ⟨hm, rfl⟩, rfl⟩
    · cases h'
theorem gram_opT {B L1 : List ByteArray} {p : ByteArray} {b : Bool} (h : OpNG B p b) (hL : (takeT ⟨#[46]⟩ L1).1 = false) : opT (B ++ L1) = some ((p, b), L1) := by
  obtain ⟨hp, rfl⟩ := h
  have hq := (hasB_iff p).2 hp
  cases b
  · show (if hasB p = true then (if (takeT ⟨#[46]⟩ L1).1 = true then _ else some ((p, false), L1)) else none) = _
    rw [if_pos hq, hL, if_neg ffB]
  · show (if hasB p = true then (if (takeT ⟨#[46]⟩ (⟨#[46]⟩ :: ⟨#[98]⟩ :: L1)).1 = true then (if (takeT ⟨#[98]⟩ (takeT ⟨#[46]⟩ (⟨#[46]⟩ :: ⟨#[98]⟩ :: L1)).2).1 = true then some ((p, true), (takeT ⟨#[98]⟩ (takeT ⟨#[46]⟩ (⟨#[46]⟩ :: ⟨#[98]⟩ :: L1)).2).2) else none) else _) else none) = _
    rw [if_pos hq, takeT_eq, if_pos rfl]
    show (if (takeT ⟨#[98]⟩ (⟨#[98]⟩ :: L1)).1 = true then some ((p, true), (takeT ⟨#[98]⟩ (⟨#[98]⟩ :: L1)).2) else none) = _
    rw [takeT_eq, if_pos rfl]
theorem src_reg {m r n : Int} {l : Bool} (h : srcB m r n l = true) : r ≤ 15 := by
  have h5 := (src_rng h).1
  unfold srcB at h
  obtain rfl | rfl | rfl | rfl | rfl | rfl : m = 0 ∨ m = 1 ∨ m = 2 ∨ m = 3 ∨ m = 4 ∨ m = 5 := by omega
  all_goals simp [plainB, isB] at h; omega
theorem dst_reg {m r n : Int} {l : Bool} (h : dstB m r n l = true) : r ≤ 15 := by
  unfold dstB at h
  by_cases h0 : m = 0
  · subst h0; simp [isB] at h; omega
  rw [if_neg h0] at h
  by_cases h1 : m = 1 ∨ m = 2
  · rw [if_pos h1] at h; exact src_reg h
  · rw [if_neg h1] at h; cases h
theorem zero_reg {m r n : Int} {l : Bool} (h : zeroB m r n l = true) : r ≤ 15 := by
  unfold zeroB at h
  simp at h
  omega
theorem ok_reg {i : Ins} (h : okI i = true) : i.r ≤ 15 ∧ i.r2 ≤ 15 := by
  unfold okI at h
  rw [insn_kinds] at h
  split at h
  · simp only [Bool.and_eq_true] at h
    exact ⟨src_reg h.1.1, dst_reg h.1.2⟩
  split at h
  · unfold oneB at h
    split at h
    · simp only [Bool.and_eq_true] at h
      exact ⟨zero_reg h.1.1.2, zero_reg h.1.2⟩
    · simp only [Bool.and_eq_true] at h
      exact ⟨src_reg h.1.1.1.1, zero_reg h.1.1.1.2⟩
  split at h
  · simp only [Bool.and_eq_true] at h
    exact ⟨zero_reg h.1.1.2, zero_reg h.1.2⟩
  · cases h
theorem twoT_gram {L L' : List ByteArray} {y : OpdW × OpdW} (h : twoT L = some (y, L')) (h1 : y.1.2.1 = ⟨#[]⟩) (h2 : y.2.2.1 = ⟨#[]⟩) (r1 : y.1.1.2.1 ≤ 15) (r2 : y.2.1.2.1 ≤ 15) : ∃ S D K, OpG S y.1.1 ∧ OpG D y.2.1 ∧ (K = [] ∨ K = [⟨#[32]⟩]) ∧ L = S ++ ⟨#[44]⟩ :: (K ++ (D ++ L')) := by
  unfold twoT at h
  split at h
  · cases h
  · rename_i s L1 hs
    split at h
    · rename_i hc
      have e1 := takeT_split hc
      generalize (takeT ⟨#[44]⟩ L1).2 = L2 at *
      split at h
      · cases h
      · rename_i d L3 hd
        cases h
        obtain ⟨S, eS, gS⟩ := oper_gram hs h1 r1
        obtain ⟨D, eD, gD⟩ := oper_gram hd h2 r2
        cases hb : (takeT ⟨#[32]⟩ L2).1
        · rw [mark_left hb] at eD
          exact ⟨S, D, [], gS, gD, .inl rfl, by rw [eS, e1, eD]; rfl⟩
        · have e2 := takeT_split hb
          exact ⟨S, D, [⟨#[32]⟩], gS, gD, .inr rfl, by rw [eS, e1, e2, eD]; rfl⟩
    · cases h
/- What the program takes whole, right and without a Name. -/
theorem insnT_gram {L : List ByteArray} {i : Ins} {s d j : ByteArray} (h : insnT L = some ((i, s, d, j), [])) (hs : s = ⟨#[]⟩) (hd : d = ⟨#[]⟩) (hj : j = ⟨#[]⟩) (ok : okI i = true) : InsG L i := by
  unfold insnT at h
  split at h
  · cases h
  · rename_i p b L1 hop
    obtain ⟨B, hB, rfl⟩ := opT_gram hop
    split at h
    · rename_i hr
      cases h
      exact ⟨B, p, b, [], hB, .inr (.inr (.inl ⟨hr, rfl, rfl⟩)), rfl⟩
    · rename_i hr
      split at h
      · rename_i hb
        have e1 := takeT_split hb
        generalize (takeT ⟨#[32]⟩ L1).2 = L2 at *
        obtain ⟨k1, k2⟩ := ok_reg ok
        unfold argT at h
        split at h
        · rename_i h2
          cases ht : twoT L2 with
          | none => rw [ht] at h; cases h
          | some z =>
            obtain ⟨y, L3⟩ := z
            rw [ht] at h
            have h' : some ((insOf p b y.1.1 y.2.1 0, y.1.2.1, y.2.2.1, (⟨#[]⟩ : ByteArray)), L3) = some ((i, s, d, j), []) := h
            cases h'
            obtain ⟨S, D, K, gS, gD, hK, e⟩ := twoT_gram ht hs hd k1 k2
            exact ⟨B, p, b, L1, hB, .inl ⟨h2, S, D, K, _, _, gS, gD, hK, by rw [e1, e]; simp, rfl⟩, rfl⟩
        split at h
        · rename_i h2 h3
          cases ht : operT L2 with
          | none => rw [ht] at h; cases h
          | some z =>
            obtain ⟨⟨x, nm, k⟩, L3⟩ := z
            rw [ht] at h
            have h' : some ((insOf p b x noO 0, nm, (⟨#[]⟩ : ByteArray), (⟨#[]⟩ : ByteArray)), L3) = some ((i, s, d, j), []) := h
            cases h'
            obtain ⟨S, e, gS⟩ := oper_gram ht hs k1
            exact ⟨B, p, b, L1, hB, .inr (.inl ⟨h2, h3, hr, S, x, gS, by rw [e1, e]; simp, rfl⟩), rfl⟩
        · rename_i h2 h3
          cases ht : jumpT L2 with
          | none => rw [ht] at h; cases h
          | some z =>
            obtain ⟨y, L3⟩ := z
            rw [ht] at h
            cases y with
            | inr x =>
              exfalso
              have h' : some ((insOf p b noO noO 0, (⟨#[]⟩ : ByteArray), (⟨#[]⟩ : ByteArray), x.1), L3) = some ((i, s, d, j), []) := h
              cases h'
              unfold jumpT at ht
              split at ht
              · cases hw : wayT (takeT ⟨#[36]⟩ L2).2 with
                | none => rw [hw] at ht; cases ht
                | some v => rw [hw] at ht; cases ht
              · split at ht
                · split at ht
                  · cases ht
                  · rename_i hne; cases ht; exact hne hj
                · cases ht
            | inl n =>
              have h' : some ((insOf p b noO noO n, (⟨#[]⟩ : ByteArray), (⟨#[]⟩ : ByteArray), (⟨#[]⟩ : ByteArray)), L3) = some ((i, s, d, j), []) := h
              cases h'
              unfold jumpT at ht
              split at ht
              · rename_i hd
                have e2 := takeT_split hd
                generalize (takeT ⟨#[36]⟩ L2).2 = L4 at *
                cases hw : wayT L4 with
                | none => rw [hw] at ht; cases ht
                | some v =>
                  obtain ⟨n2, L5⟩ := v
                  rw [hw] at ht
                  cases ht
                  unfold wayT at hw
                  split at hw
                  · cases hw
                  · rename_i m L6 hm
                    split at hw
                    · cases hw
                    · rename_i hs0
                      split at hw
                      · rename_i hm2
                        cases hw
                        rcases signT_cases L4 with ⟨h0, _⟩ | ⟨c, L7, hc, e3, e4⟩
                        · exact absurd h0 hs0
                        · rw [e4] at hm
                          obtain ⟨q, e5, hq, hq2⟩ := numT_some hm
                          have e6 : L7 = q :: [] := e5
                          refine ⟨B, p, b, L1, hB, .inr (.inr (.inr ⟨h2, h3, hr, c, q, m, hc, by rw [numR_ge hq, if_pos hq2], hm2, ?_, ?_⟩)), rfl⟩
                          · rw [e1, e2, e3, e6]
                          · rw [e4]
                      · cases hw
              · split at ht
                · split at ht
                  · cases ht
                  · cases ht
                · cases ht
      · cases h
theorem oper_head {S : List ByteArray} {x : OpdV} (h : OpG S x) (L : List ByteArray) : (takeT ⟨#[32]⟩ (S ++ L)).1 = false := by
  rcases h with ⟨p, n, rfl, hp, rfl⟩ | ⟨p, n, rfl, hp, rfl⟩ | ⟨p, n, rfl, hp, rfl⟩ | ⟨q, r, rfl, hq, rfl⟩ | ⟨q, r, rfl, hq, rfl⟩ | ⟨p, n, q, r, rfl, hp, hq, rfl⟩ | ⟨q, r, rfl, hq, rfl⟩
  · exact congrArg Prod.fst (takeT_ne _ (by decide))
  · exact congrArg Prod.fst (takeT_ne _ (by decide))
  · exact congrArg Prod.fst (takeT_ne _ (by decide))
  · exact congrArg Prod.fst (takeT_ne _ (by decide))
  · exact congrArg Prod.fst (takeT_ne _ (by decide))
  · exact congrArg Prod.fst (takeT_ne _ (wordy_ne (numW_wordy hp) (by decide)))
  · exact congrArg Prod.fst (takeT_ne _ (wordy_ne (isReg_w hq) (by decide)))
theorem reti_kind : ¬ 0 ≤ atI twosL reti := by decide +kernel
/- What is written so, the program takes whole. -/
theorem gram_insnT {P : List ByteArray} {i : Ins} (h : InsG P i) : insnT P = some ((i, ⟨#[]⟩, ⟨#[]⟩, ⟨#[]⟩), []) := by
  obtain ⟨B, p, b, Q, hB, hA, rfl⟩ := h
  unfold insnT
  rcases hA with ⟨h2, S, D, K, x, y, gS, gD, hK, rfl, rfl⟩ | ⟨h2, h3, hr, S, x, gS, rfl, rfl⟩ | ⟨hr, rfl, rfl⟩ | ⟨h2, h3, hr, c, q, n, hc, hq, hm, rfl, rfl⟩
  · have hr : ¬ p = reti := by rintro rfl; exact reti_kind h2
    rw [gram_opT hB (by exact congrArg Prod.fst (takeT_ne _ (by decide)))]
    dsimp only
    rw [if_neg hr, takeT_eq, if_pos rfl]
    dsimp only
    obtain ⟨k1, e1⟩ := gram_oper gS (L' := ⟨#[44]⟩ :: (K ++ D)) rfl
    obtain ⟨k2, e2⟩ := gram_oper gD (L' := []) trivial
    rw [List.append_nil] at e2
    have e3 : (takeT ⟨#[32]⟩ (K ++ D)).2 = D := by
      rcases hK with rfl | rfl
      · have := oper_head gD []
        rw [List.append_nil] at this
        exact mark_left this
      · exact congrArg Prod.snd (takeT_eq _ _)
    have ht : twoT (S ++ ⟨#[44]⟩ :: (K ++ D)) = some (((x, ⟨#[]⟩, k1), (y, ⟨#[]⟩, k2)), []) := by
      unfold twoT
      rw [e1]
      dsimp only
      rw [takeT_eq, if_pos rfl]
      dsimp only
      rw [e3, e2]
    unfold argT
    rw [if_pos h2, ht]
    rfl
  · rw [gram_opT hB (by exact congrArg Prod.fst (takeT_ne _ (by decide)))]
    dsimp only
    rw [if_neg hr, takeT_eq, if_pos rfl]
    dsimp only
    obtain ⟨k1, e1⟩ := gram_oper gS (L' := []) trivial
    rw [List.append_nil] at e1
    unfold argT
    rw [if_neg h2, if_pos h3, e1]
    rfl
  · rw [gram_opT hB rfl]
    dsimp only
    rw [if_pos hr]
  · rw [gram_opT hB (by exact congrArg Prod.fst (takeT_ne _ (by decide)))]
    dsimp only
    rw [if_neg hr, takeT_eq, if_pos rfl]
    dsimp only
    obtain ⟨hq1, hq2⟩ := numW_yes hq
    have ht : jumpT [⟨#[36]⟩, ⟨#[c]⟩, q] = some (Sum.inl ((sgn c * n - 2).tdiv 2), []) := by
      unfold jumpT
      rw [takeT_eq, if_pos rfl]
      dsimp only
      unfold wayT
      rw [signT_of c _ hc]
      dsimp only
      rw [numT_of [] hq1 hq2]
      dsimp only
      rw [if_neg (sgn_ne c), if_pos hm]
      rfl
    unfold argT
    rw [if_neg h2, if_neg h3, ht]
    rfl
end Go.Proofs.YtodjccipfonaiaaGreatDoor
