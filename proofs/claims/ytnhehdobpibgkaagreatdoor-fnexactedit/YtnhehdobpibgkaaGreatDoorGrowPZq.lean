/- slices.Grow and slices.Concat at sources. -/
import Derived.Test.YtnhehdobpibgkaaGreatDoorRows
import Derived.WalkKit
import Derived.WalkSpells
import Derived.WalkLawsBesides
import Derived.Lib.AppendZerosOnto
import Derived.Test.YtnhehdobpibgkaaGreatDoorBun0
import Derived.Test.YtnhehdobpibgkaaGreatDoorBun3
import Derived.Test.YtnhehdobpibgkaaGreatDoorBun11
import Derived.Test.YtnhehdobpibgkaaGreatDoorBun24
namespace Go.Proofs.YtnhehdobpibgkaaGreatDoor
open Go.RowKit
set_option linter.unusedVariables false

theorem wpList_append_run2 {P : Program} {w : World} {ops : Array Oper} {rest : List Oper} {o : Oper} {a : Act} {Q : Exit → Act → World → Prop} (hgd : o.guard = none) (s x : Operand) (t t2 : TypeId)
    (ho : o.op = .call { callee := .builtin .append, args := #[s, x], argTypes := #[t, t2] }) (v y v' : Value) (w' : World) (hs : a.eval s = v) (hx : a.eval x = y)
    (hr : (Builtin.append_ #[t, t2] o.type #[v, y]).run P w = .ok v' w') (h : wpList P ops Q rest (a.put o.dst v') w') : wpList P ops Q (o :: rest) a w :=
  wpList_plain hgd fun _ hK => by
    unfold Oper.wp execOp
    simp only [ho, resolve, invoke, builtin, Sem.run_bind, Sem.run_pure, Result.andThen_ok, List.map_toArray, List.map_cons, List.map_nil, hs, hx, hr]
    exact hK _ _ h
set_option maxRecDepth 100000 in
set_option maxHeartbeats 1600000 in
theorem growSrc_any (n : Nat) (w : World) (hn : n ≤ 1000000) : Calls Tryz.prog 95 #[.slice none 0 0, .int .i64 (n : Int)] w fun e w' => (∃ v, e = .returned v ∧ OwnR w' w.heap.size v []) ∧ Below w.heap.size w w' := by
  by_cases h0 : n = 0
  · subst h0
    go_enter Tryz.func95, Tryz.ntmps95
    go_wp2
    go_ret
    exact ⟨⟨_, rfl, OwnX.nil _ _⟩, Below.refl _ _⟩
  · obtain ⟨i0, hi, hz0, hz1, hz2⟩ := info_parts infoSrc
    have hold : (Builtin.firstCells i0.size 0 (.slice none 0 0)).run Tryz.prog w.drew = .ok ([] : List Value).toArray w.drew := run_firstCells_none w.drew i0.size 0 0 0
    have hrz : ∀ ty, (Builtin.append_ #[45, 3] ty #[.slice none 0 0, .int .i64 (n : Int)]).run Tryz.prog w = _ := fun ty =>
      Lib.run_append_grow_zeros w 45 3 ty 74 i0 _ .i64 .i64 Tryz.underlying45 Tryz.underlying3 hi hz0 none 0 0 [] hold n (by omega) (by omega) (by omega) (by omega) (by rw [hz2]; omega) (growslice_fits (by omega) (by rw [hz2]; omega))
    obtain ⟨G, hG⟩ : ∃ G, G = grownCap w (0 + n) 0 74 := ⟨_, rfl⟩
    have hGn : 0 + n ≤ G := by rw [hG]; exact grownCap_ge w _ _ _
    have hGm : G ≤ maxLen := by rw [hG]; exact grownCap_le_maxLen w (0 + n) 0 74 (by unfold maxLen; omega)
    rw [← hG] at hrz
    obtain ⟨Z, hZ⟩ : ∃ Z, Z = ([] : List Value).toArray ++ Builtin.zeroCells (Value.agg #[.string ⟨#[]⟩, .string ⟨#[]⟩]).cells n ++ Builtin.zeroCells (Value.agg #[.string ⟨#[]⟩, .string ⟨#[]⟩]).cells (G - (0 + n)) := ⟨_, rfl⟩
    have hZs : Z.size = G * 2 := by
      rw [hZ]
      simp [Builtin.zeroCells, Value.cells]
      omega
    rw [← hZ] at hrz
    have HZS : Hid (Z.size = G * 2) := hZs
    have HGM : Hid (G ≤ maxLen) := hGm
    have HAP : Hid (_ = _) := hrz 45
    clear hrz
    have hn0 : (0 : Int) < (n : Int) := by omega
    have hG1 : (0 : Int) ≤ (G : Int) := by omega
    clear hG hZ hZs hold hi hz0 hz1 hz2
    unfold maxLen at hGm
    go_enter Tryz.func95, Tryz.ntmps95
    go_wp2_with (at_builtin; refine wpList_append_run2 rfl (.tmp 20) (.tmp 21) 45 3 rfl _ _ _ _ rfl rfl HAP.out ?_)
    go_ret
    exact ⟨⟨_, rfl, OwnX.mk srcC_len (Nat.le_refl _) (heap_alloc_new w.drew _) (Nat.zero_le _) HGM.out HZS.out (fun i hi => by simp at hi)⟩, below_more (Below.refl _ _).drew _⟩
/- Rows of sources that are put together. -/
abbrev Part : Type := Option Addr × List Src × Nat
def partV (p : Part) : Value := .slice p.1 p.2.1.length p.2.2
def partsOk (w : World) (Ps : List Part) : Prop := ∀ p ∈ Ps, RowIs 2 srcC w p.1 p.2.1 ∧ (p.1 = none → p.2.2 = 0) ∧ p.2.1.length ≤ 1000
theorem partsOk.below {w w' : World} {Ps : List Part} (h : partsOk w Ps) (hb : Below w.heap.size w w') : partsOk w' Ps := fun p hp => ⟨(h p hp).1.below hb, (h p hp).2⟩
def manyP : List Part → Nat
  | [] => 0
  | p :: r => p.2.1.length + manyP r
theorem many_take : ∀ (Ps : List Part) (k : Nat) (h : k < Ps.length), manyP (Ps.take (k + 1)) = manyP (Ps.take k) + Ps[k].2.1.length
  | [], k, h => by simp at h
  | p :: r, 0, h => by simp [manyP]
  | p :: r, k + 1, h => by
    have ih := many_take r k (by simpa using h)
    simp only [List.take_succ_cons, manyP, List.getElem_cons_succ]
    omega
theorem many_le (Ps : List Part) (h : ∀ p ∈ Ps, p.2.1.length ≤ 1000) : manyP Ps ≤ 1000 * Ps.length := by
  induction Ps with
  | nil => simp [manyP]
  | cons p r ih =>
    have h1 := h p (by simp)
    have h2 := ih (fun q hq => h q (by simp [hq]))
    simp only [manyP, List.length_cons]
    omega
set_option maxRecDepth 100000 in
set_option maxHeartbeats 1600000 in
theorem concatSrc_any (Ps : List Part) (g n : Nat) (w : World) (hlen : Ps.length = n) (hn : n ≤ 10) (hg : g < w.heap.size) (hc : ∀ j (h : j < Ps.length), w.cell? ⟨g, j, none⟩ = some (partV Ps[j])) (hP : partsOk w Ps) :
    Calls Tryz.prog 81 #[.slice (some ⟨g, 0, none⟩) n n] w fun e w' => (∃ v, e = .returned v ∧ OwnR w' w.heap.size v (Ps.flatMap (·.2.1))) ∧ Below w.heap.size w w' := by
  subst hlen
  have HC : Hid (∀ j (h : j < Ps.length), w.cell? ⟨g, j, none⟩ = some (partV Ps[j])) := hc
  have HP : Hid (partsOk w Ps) := hP
  have HM : Hid (∀ k, manyP (Ps.take k) ≤ 10000) := fun k => by
    have h1 := many_le (Ps.take k) (fun p hp => (hP p (List.mem_of_mem_take hp)).2.2)
    have h2 : (Ps.take k).length ≤ Ps.length := by rw [List.length_take]; omega
    have : 1000 * (Ps.take k).length ≤ 10000 := by omega
    omega
  clear hc hP
  go_enter Tryz.func81, Tryz.ntmps81
  go_wp2
  go_loopw [3, 11] (fun s i wr => ∃ k : Nat, k ≤ Ps.length ∧ i = .int .i64 k ∧ s = .int .i64 (manyP (Ps.take k) : Nat) ∧ wr = w) (fun _ i _ => Ps.length - (intOf i).toNat)
  case atStart => exact ⟨0, by omega, rfl, by first | rfl | trivial | simp [manyP], by first | rfl | trivial⟩
  case round =>
    obtain ⟨k, hk, rfl, rfl, hw⟩ := hrel
    have hw2 := hw.symm
    clear hw
    subst hw2
    by_cases hlt : k < Ps.length
    · have c0 := HC.out k hlt
      have HT : Hid (_ = _) := many_take Ps k hlt
      have hm1 := HM.out k
      have hm2 := HM.out (k + 1)
      rw [many_take Ps k hlt] at hm2
      have hi0 : (0 : Int) ≤ (k : Int) := by omega
      have hi1 : (k : Int) < (Ps.length : Int) := by omega
      generalize Ps[k] = p at *
      obtain ⟨pa, pl, pc⟩ := p
      unfold partV at c0
      dsimp only at *
      generalize pl.length = m at *
      generalize manyP (Ps.take k) = z at *
      go_wp2
      go_roundw
      case rel => exact ⟨k + 1, by omega, by go_num, by rw [HT.out]; go_num, by first | rfl | trivial⟩
      case measure => simp [intOf]; omega
    · obtain rfl : k = Ps.length := by omega
      have hm1 := HM.out Ps.length
      generalize manyP (Ps.take Ps.length) = z at *
      go_wp2_with fail
      refine (growSrc_any z _ (by omega)).mono ?_
      rintro e x1 ⟨⟨v, rfl, ho⟩, hb⟩
      have HO : Hid (OwnR x1 w.heap.size v []) := ho
      have HB0 : Hid (Below w.heap.size w x1) := hb
      have hlt1 : w.heap.size ≤ x1.heap.size := hb.size
      have hgx : g < w.heap.size := hg
      clear ho hb hm1
      go_wp2
      go_loopw [6, 27] (fun v i wr => ∃ k : Nat, k ≤ Ps.length ∧ i = .int .i64 k ∧ Hid (OwnR wr w.heap.size v ((Ps.take k).flatMap (·.2.1))) ∧ Hid (Below w.heap.size w wr)) (fun _ i _ => Ps.length - (intOf i).toNat)
      case atStart => exact ⟨0, by omega, rfl, HO.out, HB0.out⟩
      case round =>
        obtain ⟨k, hk, rfl, HR, HB⟩ := hrel
        by_cases hlt : k < Ps.length
        · have c0 := (HB.out.cell (p := ⟨g, k, none⟩) hgx).trans (HC.out k hlt)
          obtain ⟨p1, p2, p3⟩ := (HP.out.below HB.out) Ps[k] (List.getElem_mem hlt)
          have hls : ((Ps.take k).flatMap (·.2.1)).length ≤ 1000000 := by
            have h1 := many_le (Ps.take k) (fun p hp => (HP.out p (List.mem_of_mem_take hp)).2.2)
            have h2 : (Ps.take k).length ≤ Ps.length := by rw [List.length_take]; omega
            have h3 : ∀ Qs : List Part, (Qs.flatMap (·.2.1)).length = manyP Qs := fun Qs => by
              induction Qs with
              | nil => rfl
              | cons q r ih => rw [List.flatMap_cons, List.length_append, ih]; rfl
            rw [h3]
            have : 1000 * (Ps.take k).length ≤ 10000 := by omega
            omega
          have HE : Hid ((Ps.take (k + 1)).flatMap (·.2.1) = (Ps.take k).flatMap (·.2.1) ++ Ps[k].2.1) := by
            show _ = _
            rw [List.take_succ_eq_append_getElem hlt, List.flatMap_append]; simp
          obtain ⟨v3, z3, hap, ho3, hg3⟩ := append_srcs (n := Ps[k].2.1.length) 45 Tryz.underlying45 HR.out p1 p2 rfl hls (by omega) (by have := HB.out.size; omega) 45
          have HO3 : Hid (OwnR z3 w.heap.size v3 _) := ho3
          have HB4 : Hid (Below w.heap.size w z3) := HB.out.grown hg3 (by have := HB.out.size; omega) (fun q hq => (HR.out.blk q hq).1)
          have HAP : Hid ((Builtin.append_ _ _ _).run _ _ = _) := hap
          have hi0 : (0 : Int) ≤ (k : Int) := by omega
          have hi1 : (k : Int) < (Ps.length : Int) := by omega
          unfold partV at c0
          clear ho3 hg3 hap p1 p2 p3 hls
          generalize Ps[k] = p at *
          go_wp2_with (at_builtin; refine wpList_append_run rfl (.tmp 31) (.tmp 32) 45 rfl _ _ _ _ rfl rfl HAP.out ?_)
          go_roundw
          case rel => exact ⟨k + 1, by omega, by go_num, by rw [HE.out]; exact HO3.out, HB4.out⟩
          case measure => simp [intOf]; omega
        · obtain rfl : k = Ps.length := by omega
          rw [List.take_length] at HR
          go_wp2
          go_ret
          exact ⟨⟨_, rfl, HR.out⟩, HB.out⟩
end Go.Proofs.YtnhehdobpibgkaaGreatDoor
