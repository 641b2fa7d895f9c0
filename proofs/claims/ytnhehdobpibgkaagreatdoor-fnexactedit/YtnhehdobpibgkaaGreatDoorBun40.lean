/- What a record does, by the specification. -/
import Derived.Test.YtnhehdobpibgkaaGreatDoorRows
import Derived.WalkKit
import Derived.WalkSpells
import Derived.WalkLawsBesides
import Derived.Outline
import Derived.RegionTactic
import Derived.BigRegion
import Derived.Deep.RegionHeld3
import Derived.Deep.RegionLaw
import Derived.Test.YtnhehdobpibgkaaGreatDoorBun0
import Derived.Test.YtnhehdobpibgkaaGreatDoorBun11
import Derived.Test.YtnhehdobpibgkaaGreatDoorHexRSZq
import Derived.Test.YtnhehdobpibgkaaGreatDoorBun22
import Derived.Test.YtnhehdobpibgkaaGreatDoorBun24
import Derived.Test.YtnhehdobpibgkaaGreatDoorPutSZq
import Derived.Test.YtnhehdobpibgkaaGreatDoorDoPZq
import Derived.Test.YtnhehdobpibgkaaGreatDoorGoThPZq
namespace Go.Proofs.YtnhehdobpibgkaaGreatDoor
open Go.RowKit
set_option linter.unusedVariables false

theorem specText_yes {s : ByteArray} {p : Int} {t : ByteArray} {q : Int} {w : World} (h : pT s p = some (t, q)) (hs : s.size ≤ 8000) (h0 : 0 ≤ p) (hp : p ≤ s.size) : Calls Tryz.prog 42 #[.string s, .int .i64 p] w fun e w' => e = .returned (.agg #[.string t, .int .i64 q, .int .i64 0]) ∧ Below w.heap.size w w' := by
  refine (specGetText_any s p w (by unfold maxLen; omega) (by omega) (by omega)).mono ?_
  rintro e w' ⟨rfl, hb⟩
  obtain ⟨k, rfl⟩ : ∃ k : Nat, p = (k : Int) := ⟨p.toNat, by omega⟩
  have hn : numV s (k : Int) = getN s k := if_neg (by omega)
  rw [hn, pT_parts h]
  exact ⟨rfl, hb⟩
theorem specText_no {s : ByteArray} {p : Int} {w : World} (h : pT s p = none) (hs : s.size ≤ 8000) (h0 : 0 ≤ p) (hp : p ≤ s.size) : Calls Tryz.prog 42 #[.string s, .int .i64 p] w fun e w' => (∃ t q c, ¬ c = 0 ∧ e = .returned (.agg #[.string t, .int .i64 q, .int .i64 c])) ∧ Below w.heap.size w w' := by
  refine (specGetText_any s p w (by unfold maxLen; omega) (by omega) (by omega)).mono ?_
  rintro e w' ⟨rfl, hb⟩
  obtain ⟨k, rfl⟩ : ∃ k : Nat, p = (k : Int) := ⟨p.toNat, by omega⟩
  have hn : numV s (k : Int) = getN s k := if_neg (by omega)
  rw [hn]
  exact ⟨⟨_, _, _, pT_no h, rfl⟩, hb⟩
theorem specHex_is {s : ByteArray} {c : Int} {w : World} (hc : rdC s = c) (hs : s.size ≤ maxLen) : Calls Tryz.prog 64 #[.string s] w fun e w' => (∃ n a l k, e = .returned (.agg #[.int .i64 n, .slice a l k, .int .i64 c])) ∧ Below w.heap.size w w' := by
  subst hc
  refine (specHexRead_any s w hs).mono ?_
  rintro e w' ⟨⟨v, rfl, ho⟩, hb⟩
  rw [readers] at ho ⊢
  obtain ⟨a, cap, rfl, _⟩ := own_readI ho
  exact ⟨⟨_, a, _, cap, rfl⟩, hb⟩
theorem specSources_is {a : Option Addr} {L : List Src} {n cap : Nat} {w : World} {bb : Bool} (hb : srcsB L = bb) (hR : RowIs 2 srcC w a L) (hn : L.length = n) (hl : n ≤ 2000000) (hs : ∀ s ∈ L, fitsS s) : Calls Tryz.prog 63 #[.slice a n cap] w fun e w' => e = .returned (.bool bb) ∧ Below w.heap.size w w' := by
  subst hb; subst hn; exact specSources_any a L cap w hR hl hs
theorem l04Source_is {a : Option Addr} {L : List Src} {n cap : Nat} {nm : ByteArray} {w : World} {k : Int} (hk : idxL L nm = k) (hR : RowIs 2 srcC w a L) (hn : L.length = n) (hl : n ≤ 2000000) : Calls Tryz.prog 34 #[.slice a n cap, .string nm] w fun e w' => e = .returned (.int .i64 k) ∧ Below w.heap.size w w' := by
  subst hk; subst hn; exact l04Source_any a L cap nm w hR hl
/- An append whose run is known, as a step of a drawn region. -/
theorem step_append_run {P : Program} {w : World} {o : Oper} {a : Act} {K : Act → World → Prop} {Q : Exit → Act → World → Prop} (s x : Operand) (t : TypeId)
    (ho : o.op = .call { callee := .builtin .append, args := #[s, x], argTypes := #[t, t] }) (v y v' : Value) (w' : World) (hs : a.eval s = v) (hx : a.eval x = y)
    (hr : (Builtin.append_ #[t, t] o.type #[v, y]).run P w = .ok v' w') (h : K (a.put o.dst v') w') : Oper.wp P o a w K Q := by
  unfold Oper.wp execOp
  simp only [ho, resolve, invoke, builtin, Sem.run_bind, Sem.run_pure, Result.andThen_ok, List.map_toArray, List.map_cons, List.map_nil, hs, hx, hr]
  exact h
theorem row30 {W : World} {b : Nat} {t : TypeId} {v0 v1 v2 : Value} (h : W.heap[b]? = some (.cells #[v0, v1, v2] t (0, 0))) : W.cell? ⟨b, 0, none⟩ = some v0 := cellH h rfl
def StIs (w : World) (b : Nat) (T : Told) (at_ : Int) : Prop := ∃ v, w.heap[b]? = some (.cells #[v, .string T.2.1, .int .i64 (T.2.2 : Int), .int .i64 at_] 24 (0, 0)) ∧ OwnR w (b + 1) v T.1
theorem StIs.call {w w' : World} {b : Nat} {T : Told} {at_ : Int} (h : StIs w b T at_) (hb : Below w.heap.size w w') : StIs w' b T at_ := by
  obtain ⟨v, h1, h2⟩ := h
  exact ⟨v, heap_keep h1 hb, h2.call hb⟩
def SD (b : Nat) (T : Told) (at_ : Int) (o : Option Told) (w : World) (e : Ending) (w' : World) : Prop :=
  But b w w' ∧ ((∃ r, o = some r ∧ e = .returned (.bool true) ∧ StIs w' b r at_) ∨ (o = none ∧ e = .returned (.bool false) ∧ StIs w' b T at_))
theorem full_text {s : ByteArray} (h : 0 < s.size) : s.toList.isEmpty = false := by
  have hne : ¬ s = (⟨#[]⟩ : ByteArray) := fun e => by rw [e] at h; exact absurd h (by decide)
  have h2 := textS_ne hne
  cases h3 : s.toList with
  | nil => rw [h3, Lib.toList_data] at h2; exact absurd h2 (by decide)
  | cons c l => rfl
theorem doB_none {S : List Src} {im : ByteArray} {n : Nat} {s : ByteArray} (h : pT s 1 = none) : doB S im n s = none := by
  have h1 : one1 s = none := by unfold one1; rw [h]; rfl
  have h2 : two2 s = none := by unfold two2; rw [h]; rfl
  unfold doB
  rw [h1, h2]
  simp
theorem one1_is {s t : ByteArray} {q : Int} (h : pT s 1 = some (t, q)) : one1 s = if q = (s.size : Int) then some t else none := by
  unfold one1; rw [h]; rfl
theorem two2_no {s t : ByteArray} {q : Int} (h : pT s 1 = some (t, q)) (h2 : pT s q = none) : two2 s = none := by
  unfold two2; rw [h]; simp only [Option.bind_some]; rw [h2]; rfl
theorem two2_is {s t t2 : ByteArray} {q q2 : Int} (h : pT s 1 = some (t, q)) (h2 : pT s q = some (t2, q2)) : two2 s = if q2 = (s.size : Int) then some (t, t2) else none := by
  unfold two2; rw [h]; simp only [Option.bind_some]; rw [h2]; rfl
end Go.Proofs.YtnhehdobpibgkaaGreatDoor
namespace Go.Proofs.YtnhehdobpibgkaaGreatDoor
open Go.RowKit
set_option linter.unusedVariables false

set_option maxRecDepth 100000 in
set_option maxHeartbeats 3200000 in
theorem l08Do_E (b : Nat) (S : List Src) (im : ByteArray) (n : Nat) (at_ : Int) (s : ByteArray) (w : World) (h : StIs w b (S, im, n) at_) (hr : rightT (S, im, n)) (hs : s.size ≤ 8000) (hn : n ≤ 1000000) (hpos : 0 < s.size) (hc : s[0].toNat = 69) (t1 : ByteArray) (q1 : Int) (hp1 : pT s 1 = some (t1, q1)) :
    Calls Tryz.prog 44 #[.pointer (some ⟨b, 0, none⟩), .string s] w (SD b (S, im, n) at_ (doB S im n s) w) := by
  have HL : Hid (StIs w b (S, im, n) at_) := h
  have HRT : Hid (rightT (S, im, n)) := hr
  have hl : S.length ≤ 20 := hr.2.1
  have hbw : b < w.heap.size := by obtain ⟨v, hv, _⟩ := h; exact heap_lt hv
  have hue := full_text hpos
  have hx0 : (0 : Int) < (s.size : Int) := by omega
  have HB0 : Hid (b0 s = ((69 : Nat) : Int)) := by show _ = _; rw [b0_at hpos, hc]
  have HP1 : Hid (pT s 1 = some (t1, q1)) := hp1
  have hbd1 := pT_bdI (by omega) (by omega) hp1
  have ht1 := hbd1.1
  have hq1a := hbd1.2.1
  have hq1b := hbd1.2.2
  clear h hr hp1 hbd1
  have HD : Hid (doB S im n s = (two2 s).bind fun x => putO S im n x) := do_69 hpos HB0.out
  have hc1 : ((s[0].toNat : Int) == 69) = true := by rw [hc]; rfl
  cases hp2 : pT s q1 with
  | none =>
    have HP2 : Hid (pT s q1 = none) := hp2
    have HD2 : Hid (doB S im n s = none) := by show _ = _; rw [HD.out, two2_no HP1.out hp2]; rfl
    clear hp2
    go_enter Tryz.func44, Tryz.ntmps44
    go_wp2_with fail
    refine (specText_yes HP1.out hs (by omega) (by omega)).mono ?_
    rintro e x ⟨rfl, hb⟩
    have HBx : Hid (Below w.heap.size w x) := hb
    clear hb
    go_wp2_with fail
    refine (specText_no HP2.out hs (by omega) (by omega)).mono ?_
    rintro e y ⟨⟨t, q, k, hk, rfl⟩, hb⟩
    have HBy : Hid (Below w.heap.size w y) := below_call (below_more HBx.out _) hb
    have hk2 : (k == 0) = false := by rw [beq_eq_false_iff_ne]; exact hk
    clear hb
    go_wp2
    go_ret
    exact ⟨But.of (below_more HBy.out _), .inr ⟨HD2.out, rfl, HL.out.call (below_more HBy.out _)⟩⟩
  | some tq =>
    obtain ⟨t2, q2⟩ := tq
    have HP2 : Hid (pT s q1 = some (t2, q2)) := hp2
    have ht2 := (pT_bdI (by omega) (by omega) hp2).1
    have HTW := two2_is HP1.out hp2
    clear hp2
    by_cases hq : q2 = (s.size : Int)
    · subst hq
      have hqq : ((s.size : Int) == (s.size : Int)) = true := by simp
      have HD2 : Hid (doB S im n s = putO S im n (t1, t2)) := by show _ = _; rw [HD.out, HTW, if_pos rfl]; rfl
      have HFT : Hid (∀ st ∈ putR S (t1, t2), fitsS st) := fun st hst => by
        rcases put_mem hst with rfl | hst
        · exact ⟨by show t1.size ≤ _; omega, by show t2.size ≤ _; omega⟩
        · have := HRT.out.2.2.1 st hst; exact ⟨by omega, by omega⟩
      have hlen : (putR S (t1, t2)).length ≤ 21 := by have := put_len S (t1, t2); omega
      clear HTW
      obtain ⟨v, hrow, hown⟩ := HL.out
      obtain ⟨a, cap, rfl, hR, hnn, hcap, hmm⟩ := hown.rows srcC_len
      have HRw : Hid (w.heap[b]? = _) := hrow
      have HOw : Hid (OwnR w (b + 1) (.slice a S.length cap) S) := hown
      have HR : Hid (RowIs 2 srcC w a S) := hR
      have HN : Hid (a = none → cap = 0) := hnn
      have HM : Hid (cap ≤ maxLen) := hmm
      clear hrow hown hR hnn hmm
      cases hsb : srcsB (putR S (t1, t2))
      · skip
        have HQ : Hid (srcsB (putR S (t1, t2)) = false) := hsb
        clear hsb
        go_enter Tryz.func44, Tryz.ntmps44
        go_wp2_with fail
        refine (specText_yes HP1.out hs (by omega) (by omega)).mono ?_
        rintro e x ⟨rfl, hb⟩
        have HBx : Hid (Below w.heap.size w x) := hb
        clear hb
        have HX1 : Hid ((x.alloc (.cells #[.string t1, .int .i64 q1, .int .i64 0] 61)).heap[x.heap.size]? = _) := heap_alloc_new x _
        go_wp2_with fail
        refine (specText_yes HP2.out hs (by omega) (by omega)).mono ?_
        rintro e y ⟨rfl, hb⟩
        have HXc : Hid ((y.alloc (.cells #[.string t2, .int .i64 (s.size : Int), .int .i64 0] 61)).heap[x.heap.size]? = _) := heap_more (heap_keep HX1.out hb) _
        have HYc : Hid ((y.alloc (.cells #[.string t2, .int .i64 (s.size : Int), .int .i64 0] 61)).heap[y.heap.size]? = _) := heap_alloc_new y _
        have HBc : Hid (Below w.heap.size w (y.alloc (.cells #[.string t2, .int .i64 (s.size : Int), .int .i64 0] 61))) := below_more (below_call (below_more HBx.out _) hb) _
        have HRc : Hid ((y.alloc (.cells #[.string t2, .int .i64 (s.size : Int), .int .i64 0] 61)).heap[b]? = _) := heap_keep HRw.out HBc.out
        clear hb
        obtain ⟨d0, d1, d2, _⟩ := three_cf HXc.out
        obtain ⟨f0, f1, f2, _⟩ := three_cf HYc.out
        have g0 := row40 HRc.out
        go_wp2_with fail
        go_region_held3 (fun w' => w'.cell? ⟨b, 0, none⟩ = some (.slice a S.length cap) ∧ w'.cell? ⟨x.heap.size, 0, none⟩ = some (.string t1) ∧ w'.cell? ⟨y.heap.size, 0, none⟩ = some (.string t2)) (exact ⟨row40 (by repeat (first | with_reducible exact HRc.out | with_reducible apply heap_drewn | with_reducible apply heap_more)), row30 (by repeat (first | with_reducible exact HXc.out | with_reducible apply heap_drewn | with_reducible apply heap_more)), row30 (by repeat (first | with_reducible exact HYc.out | with_reducible apply heap_drewn | with_reducible apply heap_more))⟩) (first
          | (go_at_call 62; refine (l08Put_any a S cap t1 t2 _ (HR.out.below (by repeat (first | with_reducible exact HBc.out | with_reducible refine Below.drew ?_))) hl hcap HM.out HN.out).mono ?_; rintro e z ⟨⟨vv, rfl, ho⟩, hb⟩; have HOc : Hid (OwnR z (b + 1) vv (putR S (t1, t2))) := ho.low (Nat.le_trans (show b + 1 ≤ w.heap.size by omega) HBc.out.size); obtain ⟨ar, cr, rfl, hRr, hnr, hcr, hmr⟩ := HOc.out.rows srcC_len; have HRr : Hid (RowIs 2 srcC z ar (putR S (t1, t2))) := hRr; have HRc : Hid (_ = _) := heap_keep (by repeat (first | with_reducible exact HRc.out | with_reducible apply heap_drewn | with_reducible apply heap_more)) hb; have HXc : Hid (_ = _) := heap_keep (by repeat (first | with_reducible exact HXc.out | with_reducible apply heap_drewn | with_reducible apply heap_more)) hb; have HYc : Hid (_ = _) := heap_keep (by repeat (first | with_reducible exact HYc.out | with_reducible apply heap_drewn | with_reducible apply heap_more)) hb; have HBc : Hid (Below w.heap.size w z) := below_call (by repeat (first | with_reducible exact HBc.out | with_reducible refine Below.drew ?_)) hb; clear hb ho hRr hnr hcr hmr))
        all_goals
          go_wp2_with fail
          refine (specSources_is HQ.out HRr.out rfl (by omega) HFT.out).mono ?_
          rintro e u ⟨rfl, hb⟩
          have HRu : Hid (u.heap[b]? = _) := heap_keep HRc.out hb
          have HBu : Hid (Below w.heap.size w u) := below_call HBc.out hb
          have HOu : Hid (OwnR u (b + 1) _ (putR S (t1, t2))) := HOc.out.call hb
          clear hb
          go_wp2
          go_ret
          exact ⟨But.of HBu.out, .inr ⟨by rw [HD2.out]; unfold putO; rw [if_neg (by rw [HQ.out]; simp)], rfl, ⟨_, HRu.out, HOw.out.call HBu.out⟩⟩⟩
      · skip
        have HQ : Hid (srcsB (putR S (t1, t2)) = true) := hsb
        clear hsb
        go_enter Tryz.func44, Tryz.ntmps44
        go_wp2_with fail
        refine (specText_yes HP1.out hs (by omega) (by omega)).mono ?_
        rintro e x ⟨rfl, hb⟩
        have HBx : Hid (Below w.heap.size w x) := hb
        clear hb
        have HX1 : Hid ((x.alloc (.cells #[.string t1, .int .i64 q1, .int .i64 0] 61)).heap[x.heap.size]? = _) := heap_alloc_new x _
        go_wp2_with fail
        refine (specText_yes HP2.out hs (by omega) (by omega)).mono ?_
        rintro e y ⟨rfl, hb⟩
        have HXc : Hid ((y.alloc (.cells #[.string t2, .int .i64 (s.size : Int), .int .i64 0] 61)).heap[x.heap.size]? = _) := heap_more (heap_keep HX1.out hb) _
        have HYc : Hid ((y.alloc (.cells #[.string t2, .int .i64 (s.size : Int), .int .i64 0] 61)).heap[y.heap.size]? = _) := heap_alloc_new y _
        have HBc : Hid (Below w.heap.size w (y.alloc (.cells #[.string t2, .int .i64 (s.size : Int), .int .i64 0] 61))) := below_more (below_call (below_more HBx.out _) hb) _
        have HRc : Hid ((y.alloc (.cells #[.string t2, .int .i64 (s.size : Int), .int .i64 0] 61)).heap[b]? = _) := heap_keep HRw.out HBc.out
        clear hb
        obtain ⟨d0, d1, d2, _⟩ := three_cf HXc.out
        obtain ⟨f0, f1, f2, _⟩ := three_cf HYc.out
        have g0 := row40 HRc.out
        go_wp2_with fail
        go_region_held3 (fun w' => w'.cell? ⟨b, 0, none⟩ = some (.slice a S.length cap) ∧ w'.cell? ⟨x.heap.size, 0, none⟩ = some (.string t1) ∧ w'.cell? ⟨y.heap.size, 0, none⟩ = some (.string t2)) (exact ⟨row40 (by repeat (first | with_reducible exact HRc.out | with_reducible apply heap_drewn | with_reducible apply heap_more)), row30 (by repeat (first | with_reducible exact HXc.out | with_reducible apply heap_drewn | with_reducible apply heap_more)), row30 (by repeat (first | with_reducible exact HYc.out | with_reducible apply heap_drewn | with_reducible apply heap_more))⟩) (first
          | (go_at_call 62; refine (l08Put_any a S cap t1 t2 _ (HR.out.below (by repeat (first | with_reducible exact HBc.out | with_reducible refine Below.drew ?_))) hl hcap HM.out HN.out).mono ?_; rintro e z ⟨⟨vv, rfl, ho⟩, hb⟩; have HOc : Hid (OwnR z (b + 1) vv (putR S (t1, t2))) := ho.low (Nat.le_trans (show b + 1 ≤ w.heap.size by omega) HBc.out.size); obtain ⟨ar, cr, rfl, hRr, hnr, hcr, hmr⟩ := HOc.out.rows srcC_len; have HRr : Hid (RowIs 2 srcC z ar (putR S (t1, t2))) := hRr; have HRc : Hid (_ = _) := heap_keep (by repeat (first | with_reducible exact HRc.out | with_reducible apply heap_drewn | with_reducible apply heap_more)) hb; have HXc : Hid (_ = _) := heap_keep (by repeat (first | with_reducible exact HXc.out | with_reducible apply heap_drewn | with_reducible apply heap_more)) hb; have HYc : Hid (_ = _) := heap_keep (by repeat (first | with_reducible exact HYc.out | with_reducible apply heap_drewn | with_reducible apply heap_more)) hb; have HBc : Hid (Below w.heap.size w z) := below_call (by repeat (first | with_reducible exact HBc.out | with_reducible refine Below.drew ?_)) hb; clear hb ho hRr hnr hcr hmr))
        all_goals
          go_wp2_with fail
          refine (specSources_is HQ.out HRr.out rfl (by omega) HFT.out).mono ?_
          rintro e u ⟨rfl, hb⟩
          have HRu : Hid (u.heap[b]? = _) := heap_keep HRc.out hb
          have HBu : Hid (Below w.heap.size w u) := below_call HBc.out hb
          have HOu : Hid (OwnR u (b + 1) _ (putR S (t1, t2))) := HOc.out.call hb
          clear hb
          have k0 := row40 HRu.out
          have k1 : u.frozen? ⟨b, 0, none⟩ = false := frozen_of_row _ _ _ _ _ HRu.out
          go_wp2
          go_ret
          exact ⟨But.setB (But.of HBu.out) (p := ⟨b, 0, none⟩) rfl _, .inl ⟨_, by rw [HD2.out]; unfold putO; rw [if_pos HQ.out], rfl, ⟨_, heap_set HRu.out 0 _, own_set HOu.out (by omega)⟩⟩⟩
    · have hqq : (q2 == (s.size : Int)) = false := by rw [beq_eq_false_iff_ne]; exact hq
      have HD2 : Hid (doB S im n s = none) := by show _ = _; rw [HD.out, HTW, if_neg hq]; rfl
      clear HTW
      go_enter Tryz.func44, Tryz.ntmps44
      go_wp2_with fail
      refine (specText_yes HP1.out hs (by omega) (by omega)).mono ?_
      rintro e x ⟨rfl, hb⟩
      have HBx : Hid (Below w.heap.size w x) := hb
      clear hb
      go_wp2_with fail
      refine (specText_yes HP2.out hs (by omega) (by omega)).mono ?_
      rintro e y ⟨rfl, hb⟩
      have HBy : Hid (Below w.heap.size w y) := below_call (below_more HBx.out _) hb
      clear hb
      go_wp2
      go_ret
      exact ⟨But.of (below_more HBy.out _), .inr ⟨HD2.out, rfl, HL.out.call (below_more HBy.out _)⟩⟩
end Go.Proofs.YtnhehdobpibgkaaGreatDoor
