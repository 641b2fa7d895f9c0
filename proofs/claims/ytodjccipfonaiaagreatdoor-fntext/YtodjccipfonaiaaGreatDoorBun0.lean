/- Small facts that the walks share. -/
import Derived.Test.YtodjccipfonaiaaGreatDoorRows
import Derived.WalkKit
import Derived.WalkSpells
import Derived.WalkLawsBesides
namespace Go.Proofs.YtodjccipfonaiaaGreatDoor
open Go.RowKit

theorem ret_bool {a b : Bool} (h : a = b) : Ending.returned (.bool a) = .returned (.bool b) := by rw [h]
theorem ret_int {k : IntKind} {a b : Int} (h : a = b) : Ending.returned (.int k a) = .returned (.int k b) := by rw [h]
theorem ret_str {a b : ByteArray} (h : a = b) : Ending.returned (.string a) = .returned (.string b) := by rw [h]
theorem val_u32 {a b : Int} (h : a = b) : Value.int .u32 a = .int .u32 b := by rw [h]
theorem info5 : (Tryz.prog.info? 5).map (fun i => (i.zero, i.size, i.bytes)) = some (some (.int .u8 0), 1, 1) := by kernel_rfl
theorem bcell {W w1 : World} (hb : Below W.heap.size W w1) : (∀ b o, b < W.heap.size → w1.cell? ⟨b, o, none⟩ = W.cell? ⟨b, o, none⟩) ∧ (∀ b o, b < W.heap.size → w1.frozen? ⟨b, o, none⟩ = W.frozen? ⟨b, o, none⟩) :=
  ⟨fun b o h => hb.cell (p := ⟨b, o, none⟩) h, fun b o h => hb.frozen (p := ⟨b, o, none⟩) h⟩
theorem keep3 {w w1 : World} {a b c : Value} {t : TypeId} (hb : Below (w.alloc (.cells #[a, b, c] t)).heap.size (w.alloc (.cells #[a, b, c] t)) w1) :
    (w1.cell? ⟨w.heap.size, 0, none⟩ = some a ∧ w1.cell? ⟨w.heap.size, 1, none⟩ = some b ∧ w1.cell? ⟨w.heap.size, 2, none⟩ = some c) ∧ (w1.frozen? ⟨w.heap.size, 0, none⟩ = false ∧ w1.frozen? ⟨w.heap.size, 1, none⟩ = false ∧ w1.frozen? ⟨w.heap.size, 2, none⟩ = false) ∧ w.heap.size < w1.heap.size := by
  have hz := hb.size
  simp at hz
  have hlt : w.heap.size < (w.alloc (.cells #[a, b, c] t)).heap.size := by simp
  refine ⟨⟨?_, ?_, ?_⟩, ⟨?_, ?_, ?_⟩, by omega⟩
  · rw [hb.cell (p := ⟨w.heap.size, 0, none⟩) hlt]; simp
  · rw [hb.cell (p := ⟨w.heap.size, 1, none⟩) hlt]; simp
  · rw [hb.cell (p := ⟨w.heap.size, 2, none⟩) hlt]; simp
  · rw [hb.frozen (p := ⟨w.heap.size, 0, none⟩) hlt]; simp
  · rw [hb.frozen (p := ⟨w.heap.size, 1, none⟩) hlt]; simp
  · rw [hb.frozen (p := ⟨w.heap.size, 2, none⟩) hlt]; simp
theorem results3 {fn : Func} {t u v : Tmp} (h : fn.results = #[.tmp t, .tmp u, .tmp v]) (tmps : Array Value) (P : Program) (w : World) : (results fn tmps).run P w = .ok (.tuple #[tmps.getD t undef, tmps.getD u undef, tmps.getD v undef]) w := by
  simp [results, h]
theorem results4 {fn : Func} {t u v x : Tmp} (h : fn.results = #[.tmp t, .tmp u, .tmp v, .tmp x]) (tmps : Array Value) (P : Program) (w : World) : (results fn tmps).run P w = .ok (.tuple #[tmps.getD t undef, tmps.getD u undef, tmps.getD v undef, tmps.getD x undef]) w := by
  simp [results, h]
end Go.Proofs.YtodjccipfonaiaaGreatDoor
namespace Go.Proofs.YtodjccipfonaiaaGreatDoor
open Go.RowKit

theorem results_row1 {P : Program} {fn : Func} {p u : Tmp} {ty : TypeId} (h : fn.results = #[.cell p ty, .tmp u]) (tmps : Array Value) (w : World) (g : Nat) (t : TypeId) (cs : Array Value) (fr : Nat × Nat) (d : TypeDesc)
    (hp : tmps.getD p undef = .pointer (some ⟨g, 0, none⟩)) (hg : w.heap[g]? = some (.cells cs t fr))
    (hu : P.underlying ty = some d) (hd : (match d with | .struct _ | .array _ _ => true | _ => false) = true) (hi : (P.info? ty).map (·.size) = some cs.size) :
    (results fn tmps).run P w = .ok (.tuple #[.agg cs, tmps.getD u undef]) w := by
  have hp' : tmps[p]?.getD undef = .pointer (some ⟨g, 0, none⟩) := by simpa using hp
  simp [results, h, hp', asAddr, run_loadVar_row w g t ty cs fr d hg hu hd hi]
theorem results_row3 {P : Program} {fn : Func} {p u v x : Tmp} {ty : TypeId} (h : fn.results = #[.cell p ty, .tmp u, .tmp v, .tmp x]) (tmps : Array Value) (w : World) (g : Nat) (t : TypeId) (cs : Array Value) (fr : Nat × Nat) (d : TypeDesc)
    (hp : tmps.getD p undef = .pointer (some ⟨g, 0, none⟩)) (hg : w.heap[g]? = some (.cells cs t fr))
    (hu : P.underlying ty = some d) (hd : (match d with | .struct _ | .array _ _ => true | _ => false) = true) (hi : (P.info? ty).map (·.size) = some cs.size) :
    (results fn tmps).run P w = .ok (.tuple #[.agg cs, tmps.getD u undef, tmps.getD v undef, tmps.getD x undef]) w := by
  have hp' : tmps[p]?.getD undef = .pointer (some ⟨g, 0, none⟩) := by simpa using hp
  simp [results, h, hp', asAddr, run_loadVar_row w g t ty cs fr d hg hu hd hi]
theorem heap_lt {W : World} {B : Nat} {o : Obj} (h : W.heap[B]? = some o) : B < W.heap.size := (Array.getElem?_eq_some_iff.1 h).1
theorem heap_keep {W W' : World} {B : Nat} {o : Obj} (h : W.heap[B]? = some o) (hb : Below W.heap.size W W') : W'.heap[B]? = some o := (hb.block B (heap_lt h)).trans h
theorem heap_more {W : World} {B : Nat} {o : Obj} (h : W.heap[B]? = some o) (x : Obj) : (W.alloc x).heap[B]? = some o := (Go.heap_alloc_old W x (heap_lt h)).trans h
theorem heap_set {W : World} {B : Nat} {cs : Array Value} {t : TypeId} (h : W.heap[B]? = some (.cells cs t (0, 0))) (i : Nat) (v : Value) : (W.setCell ⟨B, i, none⟩ v).heap[B]? = some (.cells (cs.setIfInBounds i v) t (0, 0)) := Go.heap_setCell_same W B i cs t v h
theorem heap_set_other {W : World} {B : Nat} {o : Obj} (h : W.heap[B]? = some o) (a : Addr) (hne : B ≠ a.block) (v : Value) : (W.setCell a v).heap[B]? = some o := (Go.heap_setCell_other W a B v hne).trans h
theorem heap_new2 (w : World) (a b : Obj) : ((w.alloc a).alloc b).heap[w.heap.size + 1]? = some b := by
  have h := heap_alloc_new (w.alloc a) b
  simpa using h
theorem heap_drewn {W : World} {B : Nat} {o : Obj} (h : W.heap[B]? = some o) : W.drew.heap[B]? = some o := h
theorem below_more {a w : World} (h : Below a.heap.size a w) (o : Obj) : Below a.heap.size a (w.alloc o) := h.alloc h.size o
theorem below_new (w : World) (o : Obj) : Below w.heap.size w (w.alloc o) := (Below.refl _ _).alloc (Nat.le_refl _) o
theorem below_call {a w w' : World} (h : Below a.heap.size a w) (hb : Below w.heap.size w w') : Below a.heap.size a w' := h.trans (hb.mono h.size)
theorem below_row {B : Nat} {a w : World} (h : Below B a w) {g : Nat} (hg : B ≤ g) (cs : Array Value) : Below B a (w.setRow g cs) :=
  ⟨h.os, h.tape, h.output, by simpa using h.size, fun k hk => (setRow_other w g k cs (by omega)).trans (h.block k hk)⟩
theorem heap_row_other {W : World} {B g : Nat} {o : Obj} (h : W.heap[B]? = some o) (hne : B ≠ g) (cs : Array Value) : (W.setRow g cs).heap[B]? = some o := (setRow_other W g B cs hne).trans h
theorem two_cells {W : World} {B : Nat} {t : TypeId} {v0 v1 : Value} (hR : W.heap[B]? = some (.cells #[v0, v1] t (0, 0))) :
    W.cell? ⟨B, 0, none⟩ = some v0 ∧ W.cell? ⟨B, 1, none⟩ = some v1 ∧ W.frozen? ⟨B, 0, none⟩ = false ∧ W.frozen? ⟨B, 1, none⟩ = false := by
  refine ⟨?_, ?_, ?_, ?_⟩ <;> simp [World.cell?, World.frozen?, hR]
end Go.Proofs.YtodjccipfonaiaaGreatDoor
namespace Go.Proofs.YtodjccipfonaiaaGreatDoor
open Go.RowKit

theorem alloc_at {W : World} {g : Nat} (h : W.heap.size = g) (o : Obj) : (W.alloc o).heap[g]? = some o := by subst h; exact heap_alloc_new W o
theorem set_two {W : World} {g : Nat} {z0 z1 a b : Value} {t : TypeId} (h : W.heap[g]? = some (.cells #[z0, z1] t (0, 0))) : ((W.setCell ⟨g, 0, none⟩ a).setCell ⟨g, 1, none⟩ b).heap[g]? = some (.cells #[a, b] t (0, 0)) :=
  heap_set (heap_set h 0 a) 1 b
theorem set_far {W : World} {B : Nat} {o : Obj} {a : Addr} {v : Value} (hne : B ≠ a.block) (h : W.heap[B]? = some o) : (W.setCell a v).heap[B]? = some o := heap_set_other h a hne v
theorem below_set {a w : World} {p : Addr} {v : Value} (hp : a.heap.size ≤ p.block) (h : Below a.heap.size a w) : Below a.heap.size a (w.setCell p v) := h.setCell hp v
end Go.Proofs.YtodjccipfonaiaaGreatDoor
namespace Go.Proofs.YtodjccipfonaiaaGreatDoor
open Go.RowKit

structure Opd where
  mode : Int
  reg : Int
  n : Int
  long : Bool
def Opd.val (o : Opd) : Value := .agg #[.int .i64 o.mode, .int .i64 o.reg, .int .i64 o.n, .bool o.long]
def isB (n low high : Int) : Bool := decide (low ≤ n) && decide (n ≤ high)
theorem l02Is_any (n low high : Int) (w : World) : Calls Tryz.prog 69 #[.int .i64 n, .int .i64 low, .int .i64 high] w fun e w' => e = .returned (.bool (isB n low high)) ∧ w' = w := by
  by_cases h1 : low ≤ n
  · go_enter Tryz.func69, Tryz.ntmps69
    go_wp2
    go_ret
    exact ⟨ret_bool (by simp [isB, h1]), rfl⟩
  · go_enter Tryz.func69, Tryz.ntmps69
    go_wp2
    go_ret
    exact ⟨ret_bool (by simp [isB]; omega), rfl⟩
theorem l02Word_any (n : Int) (w : World) : Calls Tryz.prog 72 #[.int .i64 n] w fun e w' => e = .returned (.bool (isB n 0 65535)) ∧ w' = w := by
  go_enter Tryz.func72, Tryz.ntmps72
  go_wp2_with fail
  refine (l02Is_any n 0 65535 _).mono ?_
  rintro e w1 ⟨rfl, rfl⟩
  go_wp2
  go_ret
  exact ⟨rfl, rfl⟩
def plainB (r : Int) : Bool := isB r 0 15 && (r != 2 && r != 3)
theorem l02Plain_any (r : Int) (w : World) : Calls Tryz.prog 96 #[.int .i64 r] w fun e w' => e = .returned (.bool (plainB r)) ∧ w' = w := by
  go_enter Tryz.func96, Tryz.ntmps96
  go_wp2_with fail
  refine (l02Is_any r 0 15 _).mono ?_
  rintro e w1 ⟨rfl, rfl⟩
  cases h : isB r 0 15
  · go_wp2
    go_ret
    exact ⟨ret_bool (by simp [plainB, h]), rfl⟩
  · go_wp2
    all_goals
      go_ret
      exact ⟨ret_bool (by simp_all [plainB]), rfl⟩
def shortI (n : Int) : Int × Int × Bool :=
  if n = 0 ∨ n = 1 ∨ n = 2 then (n, 3, true) else if n = 65535 then (3, 3, true) else if n = 4 then (2, 2, true) else if n = 8 then (3, 2, true) else (3, 0, false)
theorem ret_three {a b a' b' : Int} {c c' : Bool} (h : (a, b, c) = (a', b', c')) : Ending.returned (.tuple #[.int .i64 a, .int .i64 b, .bool c]) = .returned (.tuple #[.int .i64 a', .int .i64 b', .bool c']) := by
  cases h; rfl
set_option maxHeartbeats 400000 in
theorem l02Short_any (n : Int) (w : World) : Calls Tryz.prog 90 #[.int .i64 n] w fun e w' => e = .returned (.tuple #[.int .i64 (shortI n).1, .int .i64 (shortI n).2.1, .bool (shortI n).2.2]) ∧ w' = w := by
  by_cases h0 : n = 0
  · subst h0
    go_enter Tryz.func90, Tryz.ntmps90
    go_wp2
    (try simp only [Exit.inBlock, Exit.then]); refine bodyPost_ret (results3 rfl _ _ _) rfl ?_
    exact ⟨rfl, rfl⟩
  by_cases h1 : n = 1
  · subst h1
    go_enter Tryz.func90, Tryz.ntmps90
    go_wp2
    (try simp only [Exit.inBlock, Exit.then]); refine bodyPost_ret (results3 rfl _ _ _) rfl ?_
    exact ⟨rfl, rfl⟩
  by_cases h2 : n = 2
  · subst h2
    go_enter Tryz.func90, Tryz.ntmps90
    go_wp2
    (try simp only [Exit.inBlock, Exit.then]); refine bodyPost_ret (results3 rfl _ _ _) rfl ?_
    exact ⟨rfl, rfl⟩
  by_cases h3 : n = 65535
  · subst h3
    go_enter Tryz.func90, Tryz.ntmps90
    go_wp2
    (try simp only [Exit.inBlock, Exit.then]); refine bodyPost_ret (results3 rfl _ _ _) rfl ?_
    exact ⟨rfl, rfl⟩
  by_cases h4 : n = 4
  · subst h4
    go_enter Tryz.func90, Tryz.ntmps90
    go_wp2
    (try simp only [Exit.inBlock, Exit.then]); refine bodyPost_ret (results3 rfl _ _ _) rfl ?_
    exact ⟨rfl, rfl⟩
  by_cases h8 : n = 8
  · subst h8
    go_enter Tryz.func90, Tryz.ntmps90
    go_wp2
    (try simp only [Exit.inBlock, Exit.then]); refine bodyPost_ret (results3 rfl _ _ _) rfl ?_
    exact ⟨rfl, rfl⟩
  have HS : Hid (shortI n = (3, 0, false)) := by
    show _ = _
    simp [shortI, h0, h1, h2, h3, h4, h8]
  have e0 : (n == 0) = false := by simpa using h0
  have e1 : (n == 1) = false := by simpa using h1
  have e2 : (n == 2) = false := by simpa using h2
  have e3 : (n == 65535) = false := by simpa using h3
  have e4 : (n == 4) = false := by simpa using h4
  have e8 : (n == 8) = false := by simpa using h8
  clear h0 h1 h2 h3 h4 h8
  go_enter Tryz.func90, Tryz.ntmps90
  go_wp2
  (try simp only [Exit.inBlock, Exit.then]); refine bodyPost_ret (results3 rfl _ _ _) rfl ?_
  exact ⟨by rw [HS.out]; rfl, rfl⟩
theorem field_o0 (a b c d : Value) (W : World) : (Instr.field 24 (.agg #[a, b, c, d]) 0).run Tryz.prog W = .ok a W := by kernel_rfl
theorem field_o1 (a b c d : Value) (W : World) : (Instr.field 24 (.agg #[a, b, c, d]) 1).run Tryz.prog W = .ok b W := by kernel_rfl
theorem field_o2 (a b c d : Value) (W : World) : (Instr.field 24 (.agg #[a, b, c, d]) 2).run Tryz.prog W = .ok c W := by kernel_rfl
theorem field_o3 (a b c d : Value) (W : World) : (Instr.field 24 (.agg #[a, b, c, d]) 3).run Tryz.prog W = .ok d W := by kernel_rfl
def srcB (m r n : Int) (l : Bool) : Bool :=
  if m = 0 then isB r 0 15 && (r != 3) && (n == 0) && !l
  else if m = 1 then plainB r && isB n 0 65535 && !l
  else if m = 2 then (r == 0) && isB n 0 65535 && !l
  else if m = 3 then plainB r && (n == 0) && !l
  else if m = 4 then plainB r && (r != 0) && (n == 0) && !l
  else if m = 5 then (r == 0) && isB n 0 65535 && (!l || (shortI n).2.2)
  else false
set_option maxHeartbeats 400000 in
theorem l02Src_0 (r n : Int) (l : Bool) (w : World) : Calls Tryz.prog 65 #[.agg #[.int .i64 0, .int .i64 r, .int .i64 n, .bool l]] w fun e w' => e = .returned (.bool (srcB 0 r n l)) ∧ Below w.heap.size w w' := by
  go_enter Tryz.func65, Tryz.ntmps65
  go_wp2_with fail
  refine (l02Is_any r 0 15 _).mono ?_
  rintro e w1 ⟨rfl, rfl⟩
  cases h : isB r 0 15
  · go_wp2
    all_goals
      go_ret
      exact ⟨ret_bool (by simp_all [srcB]), (Below.refl _ _).alloc (Nat.le_refl _) _⟩
  · go_wp2
    all_goals
      go_ret
      exact ⟨ret_bool (by simp_all [srcB]), (Below.refl _ _).alloc (Nat.le_refl _) _⟩
set_option maxHeartbeats 400000 in
theorem l02Src_1 (r n : Int) (l : Bool) (w : World) : Calls Tryz.prog 65 #[.agg #[.int .i64 1, .int .i64 r, .int .i64 n, .bool l]] w fun e w' => e = .returned (.bool (srcB 1 r n l)) ∧ Below w.heap.size w w' := by
  go_enter Tryz.func65, Tryz.ntmps65
  go_wp2_with fail
  refine (l02Plain_any r _).mono ?_
  rintro e w1 ⟨rfl, rfl⟩
  cases h : plainB r
  · go_wp2
    all_goals
      go_ret
      exact ⟨ret_bool (by simp_all [srcB]), (Below.refl _ _).alloc (Nat.le_refl _) _⟩
  · go_wp2_with fail
    refine (l02Word_any n _).mono ?_
    rintro e w1 ⟨rfl, rfl⟩
    cases h2 : isB n 0 65535
    · go_wp2
      all_goals
        go_ret
        exact ⟨ret_bool (by simp_all [srcB]), (Below.refl _ _).alloc (Nat.le_refl _) _⟩
    · go_wp2
      all_goals
        go_ret
        exact ⟨ret_bool (by simp_all [srcB]), (Below.refl _ _).alloc (Nat.le_refl _) _⟩
set_option maxHeartbeats 400000 in
theorem l02Src_3 (r n : Int) (l : Bool) (w : World) : Calls Tryz.prog 65 #[.agg #[.int .i64 3, .int .i64 r, .int .i64 n, .bool l]] w fun e w' => e = .returned (.bool (srcB 3 r n l)) ∧ Below w.heap.size w w' := by
  go_enter Tryz.func65, Tryz.ntmps65
  go_wp2_with fail
  refine (l02Plain_any r _).mono ?_
  rintro e w1 ⟨rfl, rfl⟩
  cases h : plainB r
  · go_wp2
    all_goals
      go_ret
      exact ⟨ret_bool (by simp_all [srcB]), (Below.refl _ _).alloc (Nat.le_refl _) _⟩
  · go_wp2
    all_goals
      go_ret
      exact ⟨ret_bool (by simp_all [srcB]), (Below.refl _ _).alloc (Nat.le_refl _) _⟩
set_option maxHeartbeats 400000 in
theorem l02Src_4 (r n : Int) (l : Bool) (w : World) : Calls Tryz.prog 65 #[.agg #[.int .i64 4, .int .i64 r, .int .i64 n, .bool l]] w fun e w' => e = .returned (.bool (srcB 4 r n l)) ∧ Below w.heap.size w w' := by
  go_enter Tryz.func65, Tryz.ntmps65
  go_wp2_with fail
  refine (l02Plain_any r _).mono ?_
  rintro e w1 ⟨rfl, rfl⟩
  cases h : plainB r
  · go_wp2
    all_goals
      go_ret
      exact ⟨ret_bool (by simp_all [srcB]), (Below.refl _ _).alloc (Nat.le_refl _) _⟩
  · go_wp2
    all_goals
      go_ret
      exact ⟨ret_bool (by simp_all [srcB]), (Below.refl _ _).alloc (Nat.le_refl _) _⟩
set_option maxHeartbeats 400000 in
theorem l02Src_2 (r n : Int) (l : Bool) (w : World) : Calls Tryz.prog 65 #[.agg #[.int .i64 2, .int .i64 r, .int .i64 n, .bool l]] w fun e w' => e = .returned (.bool (srcB 2 r n l)) ∧ Below w.heap.size w w' := by
  by_cases hr : r = 0
  · subst hr
    go_enter Tryz.func65, Tryz.ntmps65
    go_wp2_with fail
    refine (l02Word_any n _).mono ?_
    rintro e w1 ⟨rfl, rfl⟩
    cases h2 : isB n 0 65535
    · go_wp2
      all_goals
        go_ret
        exact ⟨ret_bool (by simp_all [srcB]), (Below.refl _ _).alloc (Nat.le_refl _) _⟩
    · go_wp2
      all_goals
        go_ret
        exact ⟨ret_bool (by simp_all [srcB]), (Below.refl _ _).alloc (Nat.le_refl _) _⟩
  · have hr2 : (r == 0) = false := by simpa using hr
    clear hr
    go_enter Tryz.func65, Tryz.ntmps65
    go_wp2
    all_goals
      go_ret
      exact ⟨ret_bool (by simp_all [srcB]), (Below.refl _ _).alloc (Nat.le_refl _) _⟩
set_option maxHeartbeats 400000 in
theorem l02Src_5 (r n : Int) (l : Bool) (w : World) : Calls Tryz.prog 65 #[.agg #[.int .i64 5, .int .i64 r, .int .i64 n, .bool l]] w fun e w' => e = .returned (.bool (srcB 5 r n l)) ∧ Below w.heap.size w w' := by
  obtain ⟨s1, s2, s3, hs⟩ : ∃ a b c, shortI n = (a, b, c) := ⟨_, _, _, rfl⟩
  by_cases hr : r = 0
  · subst hr
    go_enter Tryz.func65, Tryz.ntmps65
    go_wp2_with fail
    refine (l02Short_any n _).mono ?_
    rintro e w1 ⟨rfl, rfl⟩
    rw [hs]
    go_wp2_with fail
    refine (l02Word_any n _).mono ?_
    rintro e w1 ⟨rfl, rfl⟩
    cases h2 : isB n 0 65535
    · go_wp2
      all_goals
        go_ret
        exact ⟨ret_bool (by simp_all [srcB]), (Below.refl _ _).alloc (Nat.le_refl _) _⟩
    · go_wp2
      all_goals
        go_ret
        exact ⟨ret_bool (by simp_all [srcB]), (Below.refl _ _).alloc (Nat.le_refl _) _⟩
  · have hr2 : (r == 0) = false := by simpa using hr
    clear hr
    go_enter Tryz.func65, Tryz.ntmps65
    go_wp2_with fail
    refine (l02Short_any n _).mono ?_
    rintro e w1 ⟨rfl, rfl⟩
    rw [hs]
    go_wp2
    all_goals
      go_ret
      exact ⟨ret_bool (by simp_all [srcB]), (Below.refl _ _).alloc (Nat.le_refl _) _⟩
set_option maxHeartbeats 400000 in
theorem l02Src_no (m r n : Int) (l : Bool) (w : World) (h : m < 0 ∨ 5 < m) : Calls Tryz.prog 65 #[.agg #[.int .i64 m, .int .i64 r, .int .i64 n, .bool l]] w fun e w' => e = .returned (.bool (srcB m r n l)) ∧ Below w.heap.size w w' := by
  have HS : Hid (srcB m r n l = false) := by
    show _ = _
    simp (disch := omega) [srcB, if_neg]
  have e0 : (m == 0) = false := by rw [beq_eq_false_iff_ne]; omega
  have e1 : (m == 1) = false := by rw [beq_eq_false_iff_ne]; omega
  have e2 : (m == 2) = false := by rw [beq_eq_false_iff_ne]; omega
  have e3 : (m == 3) = false := by rw [beq_eq_false_iff_ne]; omega
  have e4 : (m == 4) = false := by rw [beq_eq_false_iff_ne]; omega
  have e5 : (m == 5) = false := by rw [beq_eq_false_iff_ne]; omega
  clear h
  go_enter Tryz.func65, Tryz.ntmps65
  go_wp2
  go_ret
  exact ⟨ret_bool HS.out.symm, (Below.refl _ _).alloc (Nat.le_refl _) _⟩
theorem l02Src_any (m r n : Int) (l : Bool) (w : World) : Calls Tryz.prog 65 #[.agg #[.int .i64 m, .int .i64 r, .int .i64 n, .bool l]] w fun e w' => e = .returned (.bool (srcB m r n l)) ∧ Below w.heap.size w w' := by
  by_cases h : m < 0 ∨ 5 < m
  · exact l02Src_no m r n l w h
  · obtain rfl | rfl | rfl | rfl | rfl | rfl : m = 0 ∨ m = 1 ∨ m = 2 ∨ m = 3 ∨ m = 4 ∨ m = 5 := by omega
    · exact l02Src_0 r n l w
    · exact l02Src_1 r n l w
    · exact l02Src_2 r n l w
    · exact l02Src_3 r n l w
    · exact l02Src_4 r n l w
    · exact l02Src_5 r n l w
end Go.Proofs.YtodjccipfonaiaaGreatDoor
