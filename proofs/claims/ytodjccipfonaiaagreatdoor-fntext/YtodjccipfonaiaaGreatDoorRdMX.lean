/- A reader takes a piece that it is told to take: a mark, a sign. -/
import Derived.Test.YtodjccipfonaiaaGreatDoorRows
import Derived.WalkKit
import Derived.WalkSpells
import Derived.WalkLawsBesides
import Derived.Outline
import Derived.RegionTactic
import Derived.BigRegion
import Derived.Deep.QuietTactic
import Derived.BigQuiet
import Derived.Deep.RegionHeld3
import Derived.Test.YtodjccipfonaiaaGreatDoorBun0
import Derived.Test.YtodjccipfonaiaaGreatDoorBun1
import Derived.Test.YtodjccipfonaiaaGreatDoorBun31
import Derived.Test.YtodjccipfonaiaaGreatDoorPieceMX
namespace Go.Proofs.YtodjccipfonaiaaGreatDoor
open Go.RowKit
set_option linter.unusedVariables false

theorem enters_mk {k : Nat} {fn : Func} {c : Code} (hf : Tryz.prog.funcs[k]? = some fn) (hname : (fn.name == "runtime.NumGoroutine") = false) (hb : fn.body = some c) (args : Array Value) (W : World) : (callFunc k args).run Tryz.prog W = .ok (.enter k args) W := by
  have h1 : fn.name ≠ "runtime.NumGoroutine" := by simpa using hname
  simp [callFunc, hf, h1, hb, mark]
theorem text_yes {s t : ByteArray} (h : s = t) : (s.toList == t.toList) = true := by rw [h]; simp
set_option maxRecDepth 100000 in
set_option maxHeartbeats 1600000 in
theorem mark1_any (p m : ByteArray) (c : Nat) (w : World) (hc : w.heap[c]? = some (.cells #[.string m] 9 (0, 0))) : Calls Tryz.prog 98 #[.string p, .pointer (some ⟨c, 0, none⟩)] w fun e w' => e = .returned (.bool (decide (p = m))) ∧ Below w.heap.size w w' := by
  have c0 := cell_of_row _ _ 0 _ _ _ hc
  by_cases hpm : p = m
  · have h1 := text_yes hpm
    have HD : Hid (decide (p = m) = true) := decide_eq_true hpm
    clear hpm
    go_enter Tryz.func98, Tryz.ntmps98
    go_wp2
    go_ret
    exact ⟨ret_bool HD.out.symm, Below.refl _ _⟩
  · have h1 := text_ne hpm
    have HD : Hid (decide (p = m) = false) := decide_eq_false hpm
    clear hpm
    go_enter Tryz.func98, Tryz.ntmps98
    go_wp2
    go_ret
    exact ⟨ret_bool HD.out.symm, Below.refl _ _⟩
set_option maxRecDepth 100000 in
set_option maxHeartbeats 1600000 in
theorem take_nil (b g k cap : Nat) (caps : Array Value) (a : Option Addr) (w : World) (hR : Rd w b g a cap []) : Calls Tryz.prog 82 #[.pointer (some ⟨b, 0, none⟩), .func (.func k) #[] caps] w fun e w' => e = .returned (.tuple #[.string ⟨#[]⟩, .bool false]) ∧ w' = w := by
  have c0 := cell_of_row _ _ 0 _ _ _ hR.row
  go_enter Tryz.func82, Tryz.ntmps82
  go_wp2
  go_ret2
  exact ⟨rfl, rfl⟩
theorem Rd.taken {x : World} {b g o cap : Nat} {p : ByteArray} {L : List ByteArray} (h : Rd x b g (some ⟨g, o, none⟩) cap (p :: L)) (a' : Option Addr) (ha : 0 < L.length → a' = some ⟨g, o + 1, none⟩) : Rd (x.setCell ⟨b, 0, none⟩ (.slice a' L.length (cap - 1))) b g a' (cap - 1) L := by
  have hl := h.len
  have hc := h.cap
  have hs := h.less
  have h5 : (p :: L).length = L.length + 1 := rfl
  refine ⟨heap_set h.row 0 _, fun hL => ?_, by simpa [World.setCell] using h.at', by omega, by omega, by omega, fun q hq => h.text q (List.mem_cons_of_mem _ hq)⟩
  rw [ha hL]
  exact ((h.read).tail.but (But.setB (p := ⟨b, 0, none⟩) (But.refl b x) rfl _) h.at' (fun e => absurd rfl e)) hL
def TakeOut (Q : Bool → World → Prop) (b g : Nat) (a : Option Addr) (cap : Nat) (p : ByteArray) (L : List ByteArray) (e : Ending) (w' : World) : Prop :=
  ∃ ok x, Q ok x ∧ Rd x b g a cap (p :: L) ∧ ((ok = false ∧ e = .returned (.tuple #[.string ⟨#[]⟩, .bool false]) ∧ w' = x) ∨ (ok = true ∧ e = .returned (.tuple #[.string p, .bool true]) ∧ ∃ a', Rd w' b g a' (cap - 1) L ∧ w' = x.setCell ⟨b, 0, none⟩ (.slice a' L.length (cap - 1))))
set_option maxRecDepth 100000 in
set_option maxHeartbeats 1600000 in
theorem take_cons (b g k cap : Nat) (caps : Array Value) (a : Option Addr) (p : ByteArray) (L : List ByteArray) (w : World) (Q : Bool → World → Prop) (hE : ∀ (args : Array Value) (W : World), (callFunc k args).run Tryz.prog W = .ok (.enter k args) W) (hR : Rd w b g a cap (p :: L)) (hM : Calls Tryz.prog k (#[.string p] ++ caps) w fun e w' => ∃ ok, e = .returned (.bool ok) ∧ Rd w' b g a cap (p :: L) ∧ Q ok w') : Calls Tryz.prog 82 #[.pointer (some ⟨b, 0, none⟩), .func (.func k) #[] caps] w (TakeOut Q b g a cap p L) := by
  have HM : Hid (Calls Tryz.prog k (#[.string p] ++ caps) w fun e w' => ∃ ok, e = .returned (.bool ok) ∧ Rd w' b g a cap (p :: L) ∧ Q ok w') := hM
  clear hM
  have c0 := cell_of_row _ _ 0 _ _ _ hR.row
  obtain ⟨o, rfl, hne, hcell⟩ := hR.read (by simp)
  have hg := hR.at'
  have d0 : w.cell? ⟨g, o, none⟩ = some (.string p) := hcell 0 (by simp)
  have hl0 : ((L.length : Int) + 1 == 0) = false := by rw [beq_eq_false_iff_ne]; omega
  have hlen : L.length + 1 ≤ cap := hR.len
  have hcp : cap ≤ maxLen := hR.cap
  unfold maxLen at hcp
  clear hcell
  go_enter Tryz.func82, Tryz.ntmps82
  go_wp2_with fail
  refine HM.out.mono ?_
  rintro e x ⟨ok, rfl, hRx, hQ⟩
  clear hE HM hR c0 d0
  have HQ : Hid (Q ok x) := hQ
  have HRx : Hid (Rd x b g (some ⟨g, o, none⟩) cap (p :: L)) := hRx
  have c1 := cell_of_row _ _ 0 _ _ _ hRx.row
  have z1 := free_of_one hRx.row
  obtain ⟨o', e', hne', hcell⟩ := hRx.read (by simp)
  have hg' := hRx.at'
  cases e'
  have d1 : x.cell? ⟨g, o, none⟩ = some (.string p) := hcell 0 (by simp)
  clear hcell hQ hRx
  cases ok
  · go_wp2
    go_ret2
    exact ⟨false, x, HQ.out, HRx.out, .inl ⟨rfl, rfl, rfl⟩⟩
  · by_cases hc1 : cap = 1
    · subst hc1
      obtain rfl : L = [] := List.eq_nil_of_length_eq_zero (by omega)
      go_wp2
      go_ret2
      exact ⟨true, x, HQ.out, HRx.out, .inr ⟨rfl, rfl, some ⟨g, o, none⟩, HRx.out.taken _ (fun h => by omega), rfl⟩⟩
    · go_wp2
      go_ret2
      exact ⟨true, x, HQ.out, HRx.out, .inr ⟨rfl, rfl, some ⟨g, o + 1, none⟩, HRx.out.taken _ (fun h => rfl), rfl⟩⟩
def takeT (m : ByteArray) : List ByteArray → Bool × List ByteArray
  | [] => (false, [])
  | p :: L => if p = m then (true, L) else (false, p :: L)
def MarkOut (m : ByteArray) (b g : Nat) (w : World) (L : List ByteArray) (e : Ending) (w' : World) : Prop := ∃ a' cap', e = .returned (.bool (takeT m L).1) ∧ Rd w' b g a' cap' (takeT m L).2 ∧ But b w w'
theorem mark_enters (args : Array Value) (W : World) : (callFunc 98 args).run Tryz.prog W = .ok (.enter 98 args) W :=
  enters_mk Tryz.func98 (by kernel_rfl) rfl args W
set_option maxRecDepth 100000 in
set_option maxHeartbeats 1600000 in
theorem mark_any (m : ByteArray) (b g cap : Nat) (a : Option Addr) (L : List ByteArray) (w : World) (hR : Rd w b g a cap L) : Calls Tryz.prog 76 #[.pointer (some ⟨b, 0, none⟩), .string m] w (MarkOut m b g w L) := by
  have HR : Hid (Rd w b g a cap L) := hR
  have hbw := heap_lt hR.row
  clear hR
  cases L with
  | nil =>
    go_enter Tryz.func76, Tryz.ntmps76
    go_wp2_with fail
    refine (take_nil b g _ cap _ a _ (HR.out.alloc _)).mono ?_
    rintro e x ⟨rfl, hx⟩
    have hx' := hx.symm
    subst hx'
    clear hx
    go_wp2
    go_ret
    exact ⟨a, cap, rfl, HR.out.alloc _, (But.refl b w).alloc _⟩
  | cons p L =>
    go_enter Tryz.func76, Tryz.ntmps76
    go_wp2_with fail
    refine (take_cons b g _ cap _ a p L _ (fun ok x => ok = decide (p = m) ∧ Below (w.alloc (.cells #[.string m] 9)).heap.size (w.alloc (.cells #[.string m] 9)) x) mark_enters (HR.out.alloc _) ?_).mono ?_
    · refine (mark1_any p m w.heap.size _ (heap_alloc_new w _)).mono ?_
      rintro e x ⟨rfl, hb⟩
      exact ⟨_, rfl, (HR.out.alloc _).call hb, rfl, hb⟩
    · rintro e x ⟨ok, y, ⟨hok, hb⟩, hRy, hcase⟩
      rcases hcase with ⟨rfl, rfl, rfl⟩ | ⟨rfl, rfl, a', hRx, rfl⟩
      · have HO : Hid (takeT m (p :: L) = (false, p :: L)) := by
          show (if p = m then _ else _) = _
          rw [if_neg (of_decide_eq_false hok.symm)]
        have HX : Hid (_) := hRy
        have HB : Hid (Below _ _ _) := hb
        clear hRy hb hok
        go_wp2
        go_ret
        refine ⟨a, cap, ?_, ?_, ((But.refl b w).alloc _).call HB.out⟩
        · rw [HO.out]; rfl
        · rw [HO.out]; exact HX.out
      · have HO : Hid (takeT m (p :: L) = (true, L)) := by
          show (if p = m then _ else _) = _
          rw [if_pos (of_decide_eq_true hok.symm)]
        have HX : Hid (_) := hRx
        have HB : Hid (Below _ _ _) := hb
        clear hRx hRy hb hok
        go_wp2
        go_ret
        refine ⟨a', cap - 1, ?_, ?_, But.setB (((But.refl b w).alloc _).call HB.out) rfl _⟩
        · rw [HO.out]; rfl
        · rw [HO.out]; exact HX.out
def SignOut (b g : Nat) (w : World) (L : List ByteArray) (e : Ending) (w' : World) : Prop := ∃ a' cap', e = .returned (.int .i64 (signT L).1) ∧ Rd w' b g a' cap' (signT L).2 ∧ But b w w'
theorem sign_plus {L L' : List ByteArray} (h : takeT ⟨#[43]⟩ L = (true, L')) : signT L = (1, L') := by
  cases L with
  | nil => cases h
  | cons p L =>
    have h' : (if p = ⟨#[43]⟩ then (true, L) else (false, p :: L)) = (true, L') := h
    show (if p = ⟨#[43]⟩ then _ else _) = _
    split at h'
    · rename_i hp; rw [if_pos hp]; cases h'; rfl
    · cases h'
theorem sign_minus {L L' : List ByteArray} (h0 : (takeT ⟨#[43]⟩ L).1 = false) (h : takeT ⟨#[45]⟩ L = (true, L')) : signT L = (-1, L') := by
  cases L with
  | nil => cases h
  | cons p L =>
    have h' : (if p = ⟨#[45]⟩ then (true, L) else (false, p :: L)) = (true, L') := h
    have h0' : (if p = ⟨#[43]⟩ then (true, L) else (false, p :: L)).1 = false := h0
    show (if p = ⟨#[43]⟩ then _ else if p = ⟨#[45]⟩ then _ else _) = _
    split at h0'
    · cases h0'
    · rename_i hq
      rw [if_neg hq]
      split at h'
      · rename_i hp; rw [if_pos hp]; cases h'; rfl
      · cases h'
theorem sign_none {L : List ByteArray} (h0 : (takeT ⟨#[43]⟩ L).1 = false) (h : (takeT ⟨#[45]⟩ L).1 = false) : signT L = (0, L) := by
  cases L with
  | nil => rfl
  | cons p L =>
    have h' : (if p = ⟨#[45]⟩ then (true, L) else (false, p :: L)).1 = false := h
    have h0' : (if p = ⟨#[43]⟩ then (true, L) else (false, p :: L)).1 = false := h0
    show (if p = ⟨#[43]⟩ then _ else if p = ⟨#[45]⟩ then _ else _) = _
    split at h0'
    · cases h0'
    · rename_i hq
      split at h'
      · cases h'
      · rename_i hp; rw [if_neg hq, if_neg hp]
theorem mark_left {m : ByteArray} {L : List ByteArray} (h : (takeT m L).1 = false) : (takeT m L).2 = L := by
  cases L with
  | nil => rfl
  | cons p L =>
    have h' : (if p = m then (true, L) else (false, p :: L)).1 = false := h
    show (if p = m then (true, L) else (false, p :: L)).2 = _
    split at h'
    · cases h'
    · rename_i hq; rw [if_neg hq]
set_option maxRecDepth 100000 in
set_option maxHeartbeats 1600000 in
theorem sign_any (b g cap : Nat) (a : Option Addr) (L : List ByteArray) (w : World) (hR : Rd w b g a cap L) : Calls Tryz.prog 83 #[.pointer (some ⟨b, 0, none⟩)] w (SignOut b g w L) := by
  have HR : Hid (Rd w b g a cap L) := hR
  clear hR
  go_enter Tryz.func83, Tryz.ntmps83
  go_wp2_with fail
  refine (mark_any ⟨#[43]⟩ b g cap a L w HR.out).mono ?_
  rintro e x ⟨a1, cap1, rfl, hR1, hB1⟩
  have HR1 : Hid (_) := hR1
  have HB1 : Hid (But b w x) := hB1
  clear hR1 hB1
  cases hm : (takeT ⟨#[43]⟩ L).1
  · have HM : Hid ((takeT ⟨#[43]⟩ L).1 = false) := hm
    clear hm
    go_wp2_with fail
    refine (mark_any ⟨#[45]⟩ b g cap1 a1 L x (by have h := HR1.out; rw [mark_left HM.out] at h; exact h)).mono ?_
    rintro e y ⟨a2, cap2, rfl, hR2, hB2⟩
    have HR2 : Hid (_) := hR2
    have HB2 : Hid (But b x y) := hB2
    clear hR2 hB2
    cases hm2 : (takeT ⟨#[45]⟩ L).1
    · have HM2 : Hid (signT L = (0, L)) := sign_none HM.out hm2
      have HL2 : Hid (_ = L) := mark_left hm2
      clear hm2
      go_wp2
      go_ret
      refine ⟨a2, cap2, by rw [HM2.out]; rfl, ?_, HB1.out.trans HB2.out⟩
      rw [HM2.out]
      have h := HR2.out
      rw [HL2.out] at h
      exact h
    · have HM2 : Hid (signT L = (-1, (takeT ⟨#[45]⟩ L).2)) := sign_minus HM.out (by rw [← hm2])
      clear hm2
      go_wp2
      go_ret
      exact ⟨a2, cap2, by rw [HM2.out]; rfl, by rw [HM2.out]; exact HR2.out, HB1.out.trans HB2.out⟩
  · have HM : Hid (signT L = (1, (takeT ⟨#[43]⟩ L).2)) := sign_plus (by rw [← hm])
    clear hm
    go_wp2
    go_ret
    exact ⟨a1, cap1, by rw [HM.out]; rfl, by rw [HM.out]; exact HR1.out, HB1.out⟩
end Go.Proofs.YtodjccipfonaiaaGreatDoor
