/- Taking apart: Listing of the specification. -/
import Derived.Test.YtknielpkmablkaaDoorRows
import Derived.WalkKit
import Derived.WalkSpells
import Derived.WalkLawsBesides
import Derived.Outline
import Derived.Lib.AppendStr
import Derived.Test.YtknielpkmablkaaDoorBun0
import Derived.Test.YtknielpkmablkaaDoorBun27
import Derived.Test.YtknielpkmablkaaDoorBun1
import Derived.Test.YtknielpkmablkaaDoorBun44
import Derived.Test.YtknielpkmablkaaDoorBun45
import Derived.Test.YtknielpkmablkaaDoorBun42
import Derived.Test.YtknielpkmablkaaDoorTextSX
import Derived.Test.YtknielpkmablkaaDoorDisSX
import Derived.Test.YtknielpkmablkaaDoorDisLX
namespace Go.Proofs.YtknielpkmablkaaDoor
open Go.RowKit
set_option linter.unusedVariables false

def OwnB (w : World) (B : Nat) (v : Value) (L : List UInt8) : Prop := w.ownsRow B 5 1 v L.length (cellsU L) ∧ v ≠ .slice none 0 0
theorem OwnB.is {w : World} {B : Nat} {v : Value} {L : List UInt8} (h : OwnB w B v L) : ∃ g cap, v = .slice (some ⟨g, 0, none⟩) L.length cap := by
  rcases h.1.2 with ⟨rfl, _⟩ | ⟨g, cap, cur, rfl, _⟩
  · exact absurd rfl h.2
  · exact ⟨g, cap, rfl⟩
theorem OwnB.conv {W : World} {B : Nat} {v : Value} {L : List UInt8} (h : OwnB W B v L) : (convert 40 9 v).run Tryd.prog W = .ok (.string ⟨L.toArray⟩) W := by
  rcases h.1.2 with ⟨rfl, _⟩ | ⟨g, cap, cur, rfl, _, hg, _, _, _, hT⟩
  · exact absurd rfl h.2
  · exact conv_row W g L.length cap 5 cur.toList L (by simpa using hg) rfl (by simpa using hT)
theorem OwnB.more {w : World} {B : Nat} {v : Value} {L M : List UInt8} {t : ByteArray} (h : w.ownsRow B 5 1 v (L.length + t.size) (cellsU L ++ Lib.strCells t)) (hne : v ≠ .slice none 0 0) (hM : M = L ++ t.data.toList) : OwnB w B v M := by
  subst hM
  refine ⟨?_, hne⟩
  have e1 : (L ++ t.data.toList).length = L.length + t.size := by simp
  have e2 : cellsU (L ++ t.data.toList) = cellsU L ++ Lib.strCells t := by simp [cellsU, Lib.strCells]
  rw [e1, e2]
  exact h
theorem OwnB.call {w w' : World} {B : Nat} {v : Value} {L : List UInt8} (h : OwnB w B v L) (hb : Below w.heap.size w w') : OwnB w' B v L := by
  obtain ⟨⟨h1, h2⟩, hn⟩ := h
  refine ⟨⟨h1, ?_⟩, hn⟩
  rcases h2 with h2 | ⟨g, cap, cur, hv, hB, hg, rest⟩
  · exact .inl h2
  · exact .inr ⟨g, cap, cur, hv, hB, (hb.block g (heap_lt hg)).trans hg, rest⟩
theorem OwnB.low {w : World} {B : Nat} {v : Value} {L : List UInt8} (h : OwnB w B v L) : ∀ q, v.ownBlock = some q → B ≤ q := fun q hq => by
  rcases h.1.2 with ⟨rfl, _⟩ | ⟨g, cap, cur, rfl, hB, _⟩
  · cases hq
  · have : g = q := by simpa [Value.ownBlock] using hq
    omega
theorem below_grow {x w w2 : World} {o : Option Nat} (h : Below x.heap.size x w) (hg : w.grownBy w2 o) (ho : ∀ q, o = some q → x.heap.size ≤ q) : Below x.heap.size x w2 :=
  ⟨hg.os.trans h.os, hg.tape.trans h.tape, hg.output.trans h.output, Nat.le_trans h.size hg.size, fun q hq => (hg.block q (Nat.lt_of_lt_of_le hq h.size) (fun e => absurd (ho q e.symm) (by omega))).trans (h.block q hq)⟩
theorem rowAt {w : World} {x : Addr} {S : List rowE} (h : RowIs 2 rowC w (some x) S) (k : Nat) (hk : k < S.length) (n : Int) (t : ByteArray) (e : S[k] = (n, t)) : ∀ w', Below w.heap.size w w' → w'.cell? (x.add (k * 2)) = some (.int .i64 n) ∧ w'.cell? ⟨(x.add (k * 2)).block, (x.add (k * 2)).off + 1, none⟩ = some (.string t) := fun w' hb => by
  obtain ⟨y, hy, _, hE⟩ := (h.below hb).elem k hk
  cases hy
  rw [e] at hE
  exact ElemAt.two hE
theorem listT_big {rs : List rowE} (h : 4000 < (listL rs).length) : listT rs = ⟨#[]⟩ := by unfold listT; rw [if_pos h]
theorem listT_fits {rs : List rowE} (h : ¬ 4000 < (listL rs).length) : listT rs = ⟨(listL rs).toArray⟩ := by unfold listT; rw [if_neg h]
set_option maxRecDepth 100000 in
set_option maxHeartbeats 3200000 in
theorem specListing_any (a : Option Addr) (L : List Int) (cap : Nat) (base : Int) (w : World) (hR : ReadI w a L) (hl : L.length ≤ 2000000) (hcap : L.length ≤ cap) :
    Calls Tryd.prog 13 #[.slice a L.length cap, .int .i64 base] w fun e w' => ∃ rs, DisRes base L rs ∧ e = .returned (.string (listT rs)) ∧ Below w.heap.size w w' := by
  have HR : Hid (ReadI w a L) := hR
  clear hR
  obtain ⟨i0, hi, hz0, hz1, hz2⟩ := info_parts info5
  go_enter Tryd.func13, Tryd.ntmps13
  go_wp2_with fail
  refine (l06Words_any a L cap base _ HR.out hl).mono ?_
  rintro e w' ⟨rfl, rfl⟩
  cases hd : disB base L
  · have HD : Hid (disB base L = false) := hd
    clear hd
    go_wp2
    go_ret
    exact ⟨[], .inr ⟨HD.out, rfl⟩, ret_str (by simp [listT, listL]), Below.refl _ _⟩
  · have HD : Hid (disB base L = true) := hd
    obtain ⟨d1, d2, d3, d4⟩ := disB_parts hd
    have HW : Hid (wordsB L = true) := d1
    clear hd d1
    go_wp2_with fail
    refine (l06Dis_any a L cap base _ HR.out d2 hcap HW.out d3 d4).mono ?_
    rintro e x1 ⟨v, rs, rfl, ho, hii, hb⟩
    have hres : DisRes base L rs := .inl ⟨HD.out, hii⟩
    have HRES : Hid (DisRes base L rs) := hres
    have HLE : Hid (∀ r ∈ rs, r.2.size ≤ 60) := hres.le
    have hlen := hres.len
    have hsum := listL_len rs HLE.out
    obtain ⟨ra, kb, rfl, hrow⟩ := ho.is rowC_len
    have HRW : Hid (RowIs 2 rowC x1 ra rs) := hrow
    have HB : Hid (Below _ _ _) := hb
    clear ho hii hb hrow hres
    go_wp2
    go_loopw [6, 7] (fun v iv wr => ∃ k : Nat, k ≤ rs.length ∧ iv = .int .i64 k ∧ Hid (OwnB wr x1.heap.size v (listL (rs.take k))) ∧ Hid (Below x1.heap.size x1 wr)) (fun _ iv _ => rs.length - (intOf iv).toNat)
    case atStart => exact ⟨0, by omega, rfl, ⟨World.ownsRow_lit _ _ 0 (Nat.le_refl _) (by simp [maxLen]) rfl, by simp⟩, below_new _ _⟩
    case round =>
      obtain ⟨k, hk, rfl, HO, HB2⟩ := hrel
      by_cases hlt : k < rs.length
      · obtain ⟨x, rfl, hx, _⟩ := HRW.out.elem k hlt
        obtain ⟨at_, t, et⟩ : ∃ at_ t, rs[k] = (at_, t) := ⟨_, _, rfl⟩
        obtain ⟨c0, c1⟩ := rowAt HRW.out k hlt at_ t et _ HB2.out
        have ht := HLE.out rs[k] (List.getElem_mem hlt)
        have HTK : Hid (listL (rs.take (k + 1)) = listL (rs.take k) ++ (t ++ ⟨#[10]⟩ : ByteArray).data.toList) := by
          show _ = _
          rw [listL_take rs k hlt, et]
          simp
        rw [et] at ht
        dsimp only at ht
        have hsum2 := listL_lt rs HLE.out k
        clear et
        have k0 := addS t (⟨#[10]⟩) (by omega) (by decide)
        obtain ⟨u, hu⟩ : ∃ u, t ++ (⟨#[10]⟩ : ByteArray) = u := ⟨_, rfl⟩
        have hus : u.size ≤ 61 := by
          rw [← hu, ByteArray.size_append]
          have : (⟨#[10]⟩ : ByteArray).size = 1 := rfl
          omega
        have HU : Hid (t ++ (⟨#[10]⟩ : ByteArray) = u) := hu
        rw [hu] at k0
        clear hu
        have hi0 : (0 : Int) ≤ (k : Int) := by omega
        have hi1 : (k : Int) < (rs.length : Int) := by omega
        have hsz := HB2.out.size
        obtain ⟨g, cap2, rfl⟩ := HO.out.is
        go_wp2_with (at_builtin; refine Lib.wpList_append_own_string _ rfl (.tmp 22) (.tmp 28) 40 9 rfl x1.heap.size 5 i0 Tryd.underlying40 Tryd.underlying9 hi hz0 hz1 hz2 _ (listL (rs.take k)).length (cellsU (listL (rs.take k))) rfl HO.out.1 u rfl (by unfold maxLen; omega) (by omega) hsz ?_; intro v2 w2 hown2 hgrow2 hnil2)
        have hne2 : v2 ≠ .slice none 0 0 := fun e => by cases (hnil2.1 e).1
        have HBz : Hid (Below x1.heap.size x1 w2) := below_grow HB2.out hgrow2 HO.out.low
        exact ⟨⟨k + 1, by omega, by go_num, OwnB.more hown2 hne2 (HTK.out.trans (by rw [HU.out])), HBz.out⟩, by simp [intOf]; omega⟩
      · obtain rfl : k = rs.length := by omega
        have ho := HO.out
        rw [List.take_length] at ho
        obtain ⟨g, cap2, rfl⟩ := ho.is
        have hcv := ho.conv
        clear ho HO
        by_cases h4 : 4000 < (listL rs).length
        · have h4' : (4000 : Int) < ((listL rs).length : Int) := by omega
          go_wp2
          go_ret
          exact ⟨rs, HRES.out, ret_str (listT_big h4).symm, below_call HB.out HB2.out⟩
        · have h4' : ¬ (4000 : Int) < ((listL rs).length : Int) := by omega
          go_wp2
          go_ret
          exact ⟨rs, HRES.out, ret_str (listT_fits h4).symm, below_call HB.out HB2.out⟩
end Go.Proofs.YtknielpkmablkaaDoor
