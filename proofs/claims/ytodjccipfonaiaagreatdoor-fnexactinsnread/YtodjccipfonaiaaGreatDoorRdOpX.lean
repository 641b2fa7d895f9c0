/- A reader takes an operation: its name and the mark of a byte. -/
import Derived.Test.YtodjccipfonaiaaGreatDoorRows
import Derived.WalkKit
import Derived.WalkSpells
import Derived.WalkLawsBesides
import Derived.Outline
import Derived.RegionTactic
import Derived.BigRegion
import Derived.Deep.QuietTactic
import Derived.BigQuiet
import Derived.Deep.RegionHeld3
import Derived.Test.YtodjccipfonaiaaGreatDoorBun0
import Derived.Test.YtodjccipfonaiaaGreatDoorTextIX
import Derived.Test.YtodjccipfonaiaaGreatDoorBun36
import Derived.Test.YtodjccipfonaiaaGreatDoorBun37
import Derived.Test.YtodjccipfonaiaaGreatDoorOpsAX
namespace Go.Proofs.YtodjccipfonaiaaGreatDoor
open Go.RowKit
set_option linter.unusedVariables false

abbrev z17 (p : ByteArray) (b : Bool) : Array Value := #[.string p, .bool b, .int .i64 0, .int .i64 0, .int .i64 0, .bool false, .int .i64 0, .int .i64 0, .int .i64 0, .bool false, .int .i64 0, .string ⟨#[]⟩, .int .i64 0, .string ⟨#[]⟩, .int .i64 0, .string ⟨#[]⟩, .int .i64 0]
def kindI (p : ByteArray) : Int := if 0 ≤ atI twosL p then 0 else if 0 ≤ atI onesL p then 1 else 2
def opT : List ByteArray → Option ((ByteArray × Bool) × List ByteArray)
  | [] => none
  | p :: L => if hasB p = true then (if (takeT ⟨#[46]⟩ L).1 = true then (if (takeT ⟨#[98]⟩ (takeT ⟨#[46]⟩ L).2).1 = true then some ((p, true), (takeT ⟨#[98]⟩ (takeT ⟨#[46]⟩ L).2).2) else none) else some ((p, false), L)) else none
def OpIOut (b g t : Nat) (w : World) (L : List ByteArray) (e : Ending) (w' : World) : Prop :=
  ∃ (k : Int) (ok : Bool) (p : ByteArray) (bl : Bool) (a' : Option Addr) (cap' : Nat) (L' : List ByteArray), e = .returned (.tuple #[.int .i64 k, .bool ok]) ∧ Rd w' b g a' cap' L' ∧ w'.heap[t]? = some (.cells (z17 p bl) 64 (0, 0)) ∧ But2 b t w w' ∧ ((ok = false ∧ opT L = none) ∨ (ok = true ∧ opT L = some ((p, bl), L') ∧ k = kindI p ∧ p ∈ opsAll))
theorem OwnP.far {w w' : World} {m n b t : Nat} {D : DataW Unit} (h : OwnP w m n D) (hB : But2 b t w w') (h1 : m ≠ b) (h2 : m ≠ t) : OwnP w' m n D := by
  obtain ⟨es, c, g1, g2⟩ := h
  exact ⟨es, c, But2.keep g1 hB h1 h2, g2⟩
theorem ops_kind : ∀ s ∈ opsAll, s.size ≤ 10 ∧ (0 ≤ atI twosL s ∨ 0 ≤ atI onesL s ∨ 0 ≤ atI jumpsL s) := by decide +kernel
theorem place_kind {p : ByteArray} (h : p ∈ opsAll) : ∃ n : Int, (rowsD 3).atKey (.string p.data.toList) (encP 0 0) = encP (kindI p) n := by
  have hk := (ops_kind p h).2
  unfold kindI
  by_cases h2 : 0 ≤ atI twosL p
  · rw [if_pos h2]; exact place_two h2
  · rw [if_neg h2]
    by_cases h3 : 0 ≤ atI onesL p
    · rw [if_pos h3]; exact place_one h3
    · rw [if_neg h3]; exact place_jump ((hk.resolve_left h2).resolve_left h3)
theorem op1_enters (args : Array Value) (W : World) : (callFunc 97 args).run Tryz.prog W = .ok (.enter 97 args) W :=
  enters_mk Tryz.func97 (by kernel_rfl) rfl args W
set_option maxRecDepth 100000 in
set_option maxHeartbeats 3200000 in
theorem op_any (hIn : ∀ p, hasB p = true → p ∈ opsAll) (w0 : World) (b g cap t : Nat) (a : Option Addr) (L : List ByteArray) (w : World) (hR : Rd w b g a cap L) (hT0 : Tabs w0) (hF : Far w0 w b) (hT : w.heap[t]? = some (.cells (z17 ⟨#[]⟩ false) 64 (0, 0))) (htb : t ≠ b) (hgt : g ≠ t) : Calls Tryz.prog 75 #[.pointer (some ⟨b, 0, none⟩), .pointer (some ⟨t, 0, none⟩)] w (OpIOut b g t w L) := by
  have HR : Hid (Rd w b g a cap L) := hR
  have HT : Hid (w.heap[t]? = _) := hT
  have HTw : Hid (Tabs w) := hT0.below hF.below
  have hbw := heap_lt hR.row
  have hgw := hR.at'
  have htw := heap_lt hT
  clear hR hT hT0 hF
  go_enter Tryz.func75, Tryz.ntmps75
  go_wp2_with fail
  refine (opPlaces_any _ HTw.out).mono ?_
  rintro e x1 ⟨rfl, hm, hb⟩
  have hs1 := hb.size
  have HM2 : Hid (OwnP (x1.alloc (.cells #[.map (some w.heap.size)] 51)) w.heap.size 48 (rowsD 3)) := hm.stays (below_new _ _)
  have HV2 : Hid (_ = _) := heap_alloc_new x1 (.cells #[.map (some w.heap.size)] 51)
  have HR2 : Hid (Rd (x1.alloc (.cells #[.map (some w.heap.size)] 51)) b g a cap L) := (HR.out.call hb).alloc _
  have HT2 : Hid (_ = _) := heap_more (heap_keep HT.out hb) (.cells #[.map (some w.heap.size)] 51)
  have HB2 : Hid (Below w.heap.size w (x1.alloc (.cells #[.map (some w.heap.size)] 51))) := below_more hb _
  have hmw : w.heap.size < x1.heap.size := by
    obtain ⟨es, c, g1, g2⟩ := hm
    exact heap_lt g1
  clear hm hb HR HT
  cases L with
  | nil =>
    go_wp2_with fail
    refine (take_nil b g _ cap _ a _ HR2.out).mono ?_
    rintro e x ⟨rfl, hx⟩
    have hx' := hx.symm
    subst hx'
    clear hx
    go_wp2
    go_ret2
    exact ⟨0, false, ⟨#[]⟩, false, a, cap, [], rfl, HR2.out, HT2.out, But2.of (But.of HB2.out), .inl ⟨rfl, rfl⟩⟩
  | cons p L =>
    have hps := HR2.out.text p (List.mem_cons_self ..)
    have HO : Hid (opT (p :: L) = if hasB p = true then (if (takeT ⟨#[46]⟩ L).1 = true then (if (takeT ⟨#[98]⟩ (takeT ⟨#[46]⟩ L).2).1 = true then some ((p, true), (takeT ⟨#[98]⟩ (takeT ⟨#[46]⟩ L).2).2) else none) else some ((p, false), L)) else none) := rfl
    go_wp2_with fail
    refine (take_cons b g _ cap _ a p L _ (fun ok x => ok = hasB p ∧ Below (x1.alloc (.cells #[.map (some w.heap.size)] 51)).heap.size (x1.alloc (.cells #[.map (some w.heap.size)] 51)) x) op1_enters HR2.out ?_).mono ?_
    · refine (op1_any p x1.heap.size w.heap.size 48 _ HV2.out HM2.out hps).mono ?_
      rintro e x ⟨rfl, hb⟩
      exact ⟨_, rfl, HR2.out.call hb, rfl, hb⟩
    · rintro e x ⟨ok, y, ⟨hok, hb⟩, hRy, hcase⟩
      rcases hcase with ⟨rfl, rfl, rfl⟩ | ⟨rfl, rfl, a', hRx, rfl⟩
      · have HQ : Hid (opT (p :: L) = none) := by show _ = _; rw [HO.out, ← hok, if_neg (by decide)]
        have HX : Hid (_) := hRy
        have HT3 : Hid (_ = _) := heap_keep HT2.out hb
        have HB3 : Hid (Below w.heap.size w x) := below_call HB2.out hb
        clear hRy hb hok HM2 HV2 HR2 HT2 HB2
        go_wp2
        go_ret2
        exact ⟨0, false, ⟨#[]⟩, false, a, cap, p :: L, rfl, HX.out, HT3.out, But2.of (But.of HB3.out), .inl ⟨rfl, HQ.out⟩⟩
      · have hin := hIn p hok.symm
        have HIN : Hid (p ∈ opsAll) := hin
        have hsz := (ops_kind p hin).1
        obtain ⟨kn, hkn⟩ := place_kind hin
        have HK : Hid (_ = _) := hkn
        have HQ : Hid (opT (p :: L) = (if (takeT ⟨#[46]⟩ L).1 = true then (if (takeT ⟨#[98]⟩ (takeT ⟨#[46]⟩ L).2).1 = true then some ((p, true), (takeT ⟨#[98]⟩ (takeT ⟨#[46]⟩ L).2).2) else none) else some ((p, false), L))) := by show _ = _; rw [HO.out, ← hok, if_pos rfl]
        have HKD : Hid (kindI p = kindI p) := rfl
        have hys : x1.heap.size + 1 ≤ y.heap.size := by have := hb.size; simpa using this
        have HBy : Hid (But2 b t w (y.setCell ⟨b, 0, none⟩ (.slice a' L.length (cap - 1)))) := But2.of (But.setB (p := ⟨b, 0, none⟩) (But.of (below_call HB2.out hb)) rfl (.slice a' L.length (cap - 1)))
        have HMy : Hid (OwnP (y.setCell ⟨b, 0, none⟩ (.slice a' L.length (cap - 1))) w.heap.size 48 (rowsD 3)) := (HM2.out.stays hb).far (b := b) (t := b) (But2.of (But.setB (p := ⟨b, 0, none⟩) (But.refl b y) rfl (.slice a' L.length (cap - 1)))) (by omega) (by omega)
        have HVy : Hid (_ = _) := set_far (a := ⟨b, 0, none⟩) (v := .slice a' L.length (cap - 1)) (show x1.heap.size ≠ b by omega) (heap_keep HV2.out hb)
        have HTy : Hid (_ = _) := set_far (a := ⟨b, 0, none⟩) (v := .slice a' L.length (cap - 1)) (show t ≠ b by omega) (heap_keep HT2.out hb)
        have HRy : Hid (_) := hRx
        have hzs : (y.setCell ⟨b, 0, none⟩ (.slice a' L.length (cap - 1))).heap.size = y.heap.size := by simp [World.setCell]
        clear hRx hRy hb hok hin hkn HO HM2 HV2 HR2 HT2 HB2
        generalize y.setCell ⟨b, 0, none⟩ (.slice a' L.length (cap - 1)) = z at *
        have hzz : x1.heap.size + 1 ≤ z.heap.size := by omega
        clear hzs hys
        go_wp2_with fail
        refine (join_one p _ (by omega)).mono ?_
        rintro e x3 ⟨rfl, hb3⟩
        have hs3 := hb3.size
        have HB3 : Hid (But2 b t w x3) := HBy.out.call hb3
        have HM3 : Hid (OwnP x3 w.heap.size 48 (rowsD 3)) := HMy.out.stays hb3
        have HV3 : Hid (_ = _) := heap_keep HVy.out hb3
        have HT3 : Hid (x3.heap[t]? = _) := heap_keep HTy.out hb3
        have HR3 : Hid (_) := HRy.out.call hb3
        clear hb3 HBy HMy HVy HTy HRy
        have hst3 := heap_lt HT3.out
        have z0 : x3.frozen? ⟨t, 0, none⟩ = false := frozen_of_row _ _ 0 _ _ HT3.out
        have c0 := cell_of_row _ _ 0 _ _ _ HT3.out
        have HB4 : Hid (But2 b t w (x3.setCell ⟨t, 0, none⟩ (.string p))) := HB3.out.setT (p := ⟨t, 0, none⟩) rfl (.string p)
        have HM4 : Hid (OwnP (x3.setCell ⟨t, 0, none⟩ (.string p)) w.heap.size 48 (rowsD 3)) := HM3.out.far (b := t) (t := t) (But2.of (But.setB (p := ⟨t, 0, none⟩) (But.refl t x3) rfl (.string p))) (by omega) (by omega)
        have HV4 : Hid (_ = _) := set_far (a := ⟨t, 0, none⟩) (v := .string p) (show x1.heap.size ≠ t by omega) HV3.out
        have HT4 : Hid ((x3.setCell ⟨t, 0, none⟩ (.string p)).heap[t]? = some (.cells (z17 p false) 64 (0, 0))) := heap_set HT3.out 0 (.string p)
        have HR4 : Hid (Rd (x3.setCell ⟨t, 0, none⟩ (.string p)) b g a' (cap - 1) L) := Rd.setN (p := ⟨t, 0, none⟩) htb hgt HR3.out
        go_wp2_with fail
        clear z0 c0 hst3 HB3 HM3 HV3 HT3 HR3
        generalize x3.setCell ⟨t, 0, none⟩ (.string p) = x4 at *
        refine (mark_any ⟨#[46]⟩ b g (cap - 1) a' L x4 HR4.out).mono ?_
        rintro e x5 ⟨a5, cap5, rfl, hR5, hB5⟩
        have HB5 : Hid (But2 b t w x5) := HB4.out.but hB5
        have HM5 : Hid (OwnP x5 w.heap.size 48 (rowsD 3)) := HM4.out.far (b := b) (t := b) (But2.of hB5) (by omega) (by omega)
        have HV5 : Hid (x5.heap[x1.heap.size]? = _) := But.keep HV4.out hB5 (by omega)
        have HT5 : Hid (x5.heap[t]? = _) := But.keep HT4.out hB5 htb
        have HR5 : Hid (_) := hR5
        clear hR5 hB5 HB4 HM4 HV4 HT4 HR4
        cases hm1 : (takeT ⟨#[46]⟩ L).1
        · have HQ1 : Hid (opT (p :: L) = some ((p, false), L)) := by show _ = _; rw [HQ.out, hm1, if_neg (by decide)]
          have HR6 : Hid (Rd x5 b g a5 cap5 L) := by have h := HR5.out; rw [mark_left hm1] at h; exact h
          clear hm1
          have cv := cell_of_one HV5.out
          have hlk : (Instr.lookup 51 (.map (some w.heap.size)) (.string p) false).run Tryz.prog x5 = .ok (.agg #[.int .i64 (kindI p), .int .i64 kn]) x5 := look_place HM5.out hsz HK.out
          have hfp := fun W => field_place (.int .i64 (kindI p)) (.int .i64 kn) W
          generalize hkk : kindI p = kk at *
          have HKK : Hid (kindI p = kk) := hkk
          clear hkk
          go_wp2
          go_ret2
          exact ⟨kk, true, p, false, a5, cap5, L, rfl, HR6.out, HT5.out, HB5.out, .inr ⟨rfl, HQ1.out, HKK.out.symm, HIN.out⟩⟩
        · have HQ1 : Hid (opT (p :: L) = (if (takeT ⟨#[98]⟩ (takeT ⟨#[46]⟩ L).2).1 = true then some ((p, true), (takeT ⟨#[98]⟩ (takeT ⟨#[46]⟩ L).2).2) else none)) := by show _ = _; rw [HQ.out, hm1, if_pos rfl]
          clear hm1
          generalize (takeT ⟨#[46]⟩ L).2 = L5 at *
          have z1 : x5.frozen? ⟨t, 1, none⟩ = false := frozen_of_row _ _ 1 _ _ HT5.out
          have c1 := cell_of_row _ _ 1 _ _ _ HT5.out
          have hst5 := heap_lt HT5.out
          have HB6 : Hid (But2 b t w (x5.setCell ⟨t, 1, none⟩ (.bool true))) := HB5.out.setT (p := ⟨t, 1, none⟩) rfl (.bool true)
          have HM6 : Hid (OwnP (x5.setCell ⟨t, 1, none⟩ (.bool true)) w.heap.size 48 (rowsD 3)) := HM5.out.far (b := t) (t := t) (But2.of (But.setB (p := ⟨t, 1, none⟩) (But.refl t x5) rfl (.bool true))) (by omega) (by omega)
          have HV6 : Hid (_ = _) := set_far (a := ⟨t, 1, none⟩) (v := .bool true) (show x1.heap.size ≠ t by omega) HV5.out
          have HT6 : Hid ((x5.setCell ⟨t, 1, none⟩ (.bool true)).heap[t]? = some (.cells (z17 p true) 64 (0, 0))) := heap_set HT5.out 1 (.bool true)
          have HR6 : Hid (Rd (x5.setCell ⟨t, 1, none⟩ (.bool true)) b g a5 cap5 L5) := Rd.setN (p := ⟨t, 1, none⟩) htb hgt HR5.out
          go_wp2_with fail
          clear z1 c1 hst5 HB5 HM5 HV5 HT5 HR5
          generalize x5.setCell ⟨t, 1, none⟩ (.bool true) = x6 at *
          have cv : x6.cell? ⟨x1.heap.size, 0, none⟩ = some (.map (some w.heap.size)) := cell_of_one HV6.out
          have hlk : (Instr.lookup 51 (.map (some w.heap.size)) (.string p) false).run Tryz.prog x6.drew = .ok (.agg #[.int .i64 (kindI p), .int .i64 kn]) x6.drew := look_place (show OwnP x6.drew w.heap.size 48 (rowsD 3) from HM6.out) hsz HK.out
          have hfp := fun W => field_place (.int .i64 (kindI p)) (.int .i64 kn) W
          generalize hkk : kindI p = kk at *
          have HKK : Hid (kindI p = kk) := hkk
          clear hkk
          go_region_held3 (fun w' => w'.cell? ⟨x1.heap.size, 0, none⟩ = some (.map (some w.heap.size))) (first | exact cell_of_one (by repeat (first | with_reducible exact HV6.out | with_reducible exact HV7.out | with_reducible apply heap_drewn))) (first
            | (go_at_call 76; refine (mark_any ⟨#[98]⟩ b g cap5 a5 L5 _ (by repeat (first | with_reducible exact HR6.out | with_reducible refine Rd.drew ?_))).mono ?_; rintro e x7 ⟨a7, cap7, rfl, hR7, hB7⟩; have HB7 : Hid (But2 b t w x7) := But2.but (by repeat (first | with_reducible exact HB6.out | with_reducible refine But2.drew ?_)) hB7; have HM7 : Hid (OwnP x7 w.heap.size 48 (rowsD 3)) := OwnP.far (w := x6.drew) (b := b) (t := b) (show OwnP x6.drew w.heap.size 48 (rowsD 3) from HM6.out) (But2.of hB7) (by omega) (by omega); have HV7 : Hid (x7.heap[x1.heap.size]? = _) := But.keep (by repeat (first | with_reducible exact HV6.out | with_reducible apply heap_drewn)) hB7 (by omega); have HT7 : Hid (x7.heap[t]? = _) := But.keep (by repeat (first | with_reducible exact HT6.out | with_reducible apply heap_drewn)) hB7 htb; have HR7 : Hid (Rd x7 b g a7 cap7 (takeT ⟨#[98]⟩ L5).2) := hR7; have hlk : (Instr.lookup 51 (.map (some w.heap.size)) (.string p) false).run Tryz.prog x7 = .ok (.agg #[.int .i64 kk, .int .i64 kn]) x7 := look_place HM7.out hsz HK.out; clear hR7 hB7))
          all_goals
            go_wp2
            go_ret2
            exact ⟨kk, (takeT ⟨#[98]⟩ L5).1, p, true, _, _, (takeT ⟨#[98]⟩ L5).2, rfl, by repeat (first | with_reducible exact HR7.out | with_reducible refine Rd.drew ?_), by repeat (first | with_reducible exact HT7.out | with_reducible apply heap_drewn), by repeat (first | with_reducible exact HB7.out | with_reducible refine But2.drew ?_), by cases hm2 : (takeT ⟨#[98]⟩ L5).1 with | false => exact .inl ⟨rfl, by rw [HQ1.out, hm2, if_neg (by decide)]⟩ | true => exact .inr ⟨rfl, by rw [HQ1.out, hm2, if_pos rfl], HKK.out.symm, HIN.out⟩⟩
end Go.Proofs.YtodjccipfonaiaaGreatDoor
