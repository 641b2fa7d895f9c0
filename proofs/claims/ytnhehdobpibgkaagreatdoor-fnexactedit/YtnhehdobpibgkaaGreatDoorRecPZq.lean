/- recordOf, by the program. -/
import Derived.Test.YtnhehdobpibgkaaGreatDoorRows
import Derived.WalkKit
import Derived.WalkSpells
import Derived.WalkLawsBesides
import Derived.Outline
import Derived.RegionTactic
import Derived.BigRegion
import Derived.Deep.RegionWith
import Derived.Deep.RegionHeld3
import Derived.Test.YtnhehdobpibgkaaGreatDoorBun36
import Derived.Test.YtnhehdobpibgkaaGreatDoorBun33
import Derived.Test.YtnhehdobpibgkaaGreatDoorBun0
import Derived.Test.YtnhehdobpibgkaaGreatDoorBun29
import Derived.Test.YtnhehdobpibgkaaGreatDoorBun7
import Derived.Test.YtnhehdobpibgkaaGreatDoorBun50
import Derived.Test.YtnhehdobpibgkaaGreatDoorBun48
namespace Go.Proofs.YtnhehdobpibgkaaGreatDoor
open Go.RowKit
set_option linter.unusedVariables false

def oneB (d : UInt8) : ByteArray := ⟨#[d]⟩
theorem conv_oneB (d : UInt8) (B : Nat) (W : World) (h : W.heap[B]? = some (.cells #[.int .u8 (d.toNat : Int)] 5 (0, 0))) : (convert 80 9 (.slice (some ⟨B, 0, none⟩) 1 1)).run Tryz.prog W = .ok (.string (oneB d)) W := by
  have h := run_convert_bytes_arg (P := Tryz.prog) W 80 5 Tryz.underlying80 Tryz.underlying5 B 0 1 1 [(d.toNat : Int)] rfl (fun i hi => ?_) 9 Tryz.underlying9
  · rw [h]
    have e : strOfNums [(d.toNat : Int)] = oneB d := by
      simp [strOfNums, oneB]
    rw [e]
  · obtain rfl : i = 0 := by simp at hi; omega
    simp [World.cell?, h]
theorem conv_oneN (d : UInt8) (W : World) : (convert 80 9 (.slice (some ⟨W.heap.size, 0, none⟩) 1 1)).run Tryz.prog (W.alloc (.cells #[.int .u8 (d.toNat : Int)] 5)) = .ok (.string (oneB d)) (W.alloc (.cells #[.int .u8 (d.toNat : Int)] 5)) := conv_oneB d _ _ (heap_alloc_new _ _)
theorem conv_oneA (d : UInt8) (o : ByteArray) (W : World) (ho : oneB d = o) : (convert 80 9 (.slice (some ⟨W.heap.size, 0, none⟩) 1 1)).run Tryz.prog (W.alloc (.cells #[.int .u8 (d.toNat : Int)] 5)) = .ok (.string o) (W.alloc (.cells #[.int .u8 (d.toNat : Int)] 5)) := ho ▸ conv_oneN d W
theorem conv_oneD (d : UInt8) (o : ByteArray) (W : World) (ho : oneB d = o) : (convert 80 9 (.slice (some ⟨W.heap.size, 0, none⟩) 1 1)).run Tryz.prog (W.alloc (.cells #[.int .u8 (d.toNat : Int)] 5)).drew = .ok (.string o) (W.alloc (.cells #[.int .u8 (d.toNat : Int)] 5)).drew := ho ▸ conv_oneB d _ _ (heap_drewn (heap_alloc_new _ _))
theorem conv_oneQ {d : UInt8} {o : ByteArray} {B : Nat} {W : World} (ho : oneB d = o) (h : W.heap[B]? = some (.cells #[.int .u8 (d.toNat : Int)] 5 (0, 0))) : (convert 80 9 (.slice (some ⟨B, 0, none⟩) 1 1)).run Tryz.prog W = .ok (.string o) W := ho ▸ conv_oneB d B W h
theorem rowT_drew {a : Option Addr} {L : List ByteArray} {w : World} (h : RowIs 1 strC w a L) : RowIs 1 strC w.drew a L := h.below (Below.refl _ _).drew
theorem implSeal_is {s u : ByteArray} {w : World} (h : sealB s = u) (hs : s.size ≤ maxLen) : Calls Tryz.prog 57 #[.string s] w fun e w' => e = .returned (.string u) ∧ Below w.heap.size w w' := h ▸ implSeal_any s w hs
theorem implPut_is {s u : ByteArray} {w : World} (h : putT s = u) (hs : s.size ≤ maxLen) : Calls Tryz.prog 56 #[.string s] w fun e w' => e = .returned (.string u) ∧ Below w.heap.size w w' := h ▸ implPutText_any s w hs
theorem layEachT_is {a : Option Addr} {L : List ByteArray} {n cap : Nat} {c : ByteArray} {w : World} (hc : catL (L.map putT) = c) (hR : RowIs 1 strC w a L) (hn : L.length = n) (hW : ∀ s ∈ L, s.size ≤ 8000) (hl : n ≤ 1000) :
    Calls Tryz.prog 58 #[.slice a n cap, .func (.func 56) #[] #[]] w fun e w' => e = .returned (.string c) ∧ Below w.heap.size w w' := hc ▸ layEachT_any a L n cap w hR hn hW hl
theorem joinTwo_is {a b : ByteArray} {N : Nat} {x : World} (hN : x.heap.size = N) (h : (a ++ b).size ≤ 400000000) : Calls Tryz.prog 55 #[.slice (some ⟨N, 0, none⟩) 2 2] (x.alloc (.cells #[.string a, .string b] 9)) fun e w' => e = .returned (.string (a ++ b)) ∧ Below x.heap.size x w' := join_twoN a b N x hN h
set_option maxRecDepth 100000 in
set_option maxHeartbeats 3200000 in
theorem recordOf_any (d : UInt8) (a : Option Addr) (L : List ByteArray) (n cap : Nat) (c r : ByteArray) (w : World) (hR : RowIs 1 strC w a L) (hn : L.length = n) (hW : ∀ s ∈ L, s.size ≤ 8000) (hl : n ≤ 1000) (hc : catL (L.map putT) = c) (hz : c.size ≤ 100000) (hr : recT (oneB d ++ c) = r) :
    Calls Tryz.prog 40 #[.int .u8 (d.toNat : Int), .slice a n cap] w fun e w' => e = .returned (.string r) ∧ Below w.heap.size w w' := by
  have HR : Hid (RowIs 1 strC w a L) := hR
  have HN : Hid (L.length = n) := hn
  have HW : Hid (∀ s ∈ L, s.size ≤ 8000) := hW
  have HL : Hid (n ≤ 1000) := hl
  have HC : Hid (catL (L.map putT) = c) := hc
  have hbd : (oneB d ++ c).size = 1 + c.size := by rw [ByteArray.size_append]; rfl
  obtain ⟨s, hs⟩ : ∃ s, sealB (oneB d ++ c) = s := ⟨_, rfl⟩
  have hss : s.size ≤ 200000 := by
    rw [← hs]
    unfold sealB
    split
    · show 0 ≤ _; omega
    · rw [ByteArray.size_append, four_size]; omega
  have HS : Hid (sealB (oneB d ++ c) = s) := hs
  have HPR : Hid (putT s = r) := by show _ = _; rw [← hs]; exact hr
  have HBD : Hid ((oneB d ++ c).size ≤ maxLen) := by show _ ≤ _; unfold maxLen; omega
  have HBJ : Hid ((oneB d ++ c).size ≤ 400000000) := by show _ ≤ _; omega
  have HSS : Hid (s.size ≤ maxLen) := by show _ ≤ _; unfold maxLen; omega
  clear hR hn hW hl hc hz hr hs hss hbd
  generalize hd : oneB d = o at *
  have HD : Hid (oneB d = o) := hd
  have hcv := conv_oneD d o w hd
  clear hd
  go_enter Tryz.func40, Tryz.ntmps40
  go_wp2_with fail
  refine wp_region_held_drew (S := AnyC) (by kernel_rfl) trivial (fun hS => WH.out ?_)
  clear hS
  refine held_op 0 9 (.int .u8 (d.toNat : Int)) rfl rfl (by kernel_rfl) (by kernel_rfl) (by kernel_rfl) (fun _ _ _ h => h) (by kernel_rfl) trivial (fun Y hC => ?_) (fun K hK => ?_)
  · go_simp
  go_simp
  refine hK _ ?_
  clear hK K
  refine held_op 3 8 (.slice a n cap) rfl rfl (by kernel_rfl) (by kernel_rfl) (by kernel_rfl) (fun _ _ _ h => h) (by kernel_rfl) trivial (fun Y hC => ?_) (fun K hK => ?_)
  · go_simp
  go_simp
  refine hK _ ?_
  clear hK K
  refine held_two 1 4 7 rfl (by kernel_rfl) rfl rfl (by kernel_rfl) (by kernel_rfl) (fun K hK => ?_) (fun K hK => ?_)
  · go_simp
    refine hK.out _ _ trivial ?_
    clear hK K
    refine held_two 2 4 6 rfl (by kernel_rfl) rfl rfl (by kernel_rfl) (by kernel_rfl) (fun K hK => ?_) (fun K hK => ?_)
    · go_simp
      refine hK.out _ _ trivial ?_
      clear hK K
      refine held_one 4 5 rfl (by kernel_rfl) rfl (by kernel_rfl) (fun K hK => ?_)
      go_simp
      refine (layEachT_is HC.out (rowT_drew (HR.out.alloc _)) HN.out HW.out HL.out).mono ?_
      rintro e q ⟨rfl, hb⟩
      have HBq : Hid (Below w.heap.size w q) := below_call (below_new w _).drew hb
      clear hb
      go_wp2_with fail
      refine hK.out _ _ trivial ?_
      clear hK K
      refine held_one 5 4 rfl (by kernel_rfl) rfl (by kernel_rfl) (fun K hK => ?_)
      go_simp
      refine hK.out _ _ trivial ?_
      clear hK K
      refine held_one 6 3 rfl (by kernel_rfl) rfl (by kernel_rfl) (fun K hK => ?_)
      go_simp
      refine (joinTwo_is (x := q) (by simp) HBJ.out).mono ?_
      rintro e y ⟨rfl, hb⟩
      have HBy : Hid (Below w.heap.size w y) := below_call HBq.out hb
      clear hb
      go_wp2_with fail
      refine hK.out _ _ trivial ?_
      clear hK K
      refine held_one 7 2 rfl (by kernel_rfl) rfl (by kernel_rfl) (fun K hK => ?_)
      go_simp
      refine (implSeal_is HS.out HBD.out).mono ?_
      rintro e u ⟨rfl, hb⟩
      have HBu : Hid (Below w.heap.size w u) := below_call HBy.out hb
      clear hb
      go_wp2_with fail
      refine hK.out _ _ trivial ?_
      clear hK K
      refine held_one 8 1 rfl (by kernel_rfl) rfl (by kernel_rfl) (fun K hK => ?_)
      go_simp
      refine (implPut_is HPR.out HSS.out).mono ?_
      rintro e t ⟨rfl, hb⟩
      have HBt : Hid (Below w.heap.size w t) := below_call HBu.out hb
      clear hb
      go_wp2_with fail
      refine hK.out _ _ trivial ?_
      clear hK K
      refine held_one 9 0 rfl (by kernel_rfl) rfl (by kernel_rfl) (fun K hK => ?_)
      go_simp
      refine hK.out _ _ trivial ?_
      clear hK K
      refine held_done (by kernel_rfl) ?_
      go_wp2
      go_ret
      exact ⟨rfl, HBt.out⟩
    · skip
      go_simp
      refine (layEachT_is HC.out (rowT_drew (HR.out.alloc _)) HN.out HW.out HL.out).mono ?_
      rintro e q ⟨rfl, hb⟩
      have HBq : Hid (Below w.heap.size w q) := below_call (below_new w _).drew hb
      have hq0 := heap_keep (heap_drewn (heap_alloc_new w (.cells #[.int .u8 (d.toNat : Int)] 5))) hb
      have hcq := conv_oneQ HD.out hq0
      clear hq0
      clear hb
      go_wp2_with fail
      refine hK.out _ _ trivial ?_
      clear hK K
      refine held_one 2 5 rfl (by kernel_rfl) rfl (by kernel_rfl) (fun K hK => ?_)
      go_simp
      refine hK.out _ _ trivial ?_
      clear hK K
      refine held_one 5 4 rfl (by kernel_rfl) rfl (by kernel_rfl) (fun K hK => ?_)
      go_simp
      refine hK.out _ _ trivial ?_
      clear hK K
      refine held_one 6 3 rfl (by kernel_rfl) rfl (by kernel_rfl) (fun K hK => ?_)
      go_simp
      refine (joinTwo_is (x := q) (by simp) HBJ.out).mono ?_
      rintro e y ⟨rfl, hb⟩
      have HBy : Hid (Below w.heap.size w y) := below_call HBq.out hb
      clear hb
      go_wp2_with fail
      refine hK.out _ _ trivial ?_
      clear hK K
      refine held_one 7 2 rfl (by kernel_rfl) rfl (by kernel_rfl) (fun K hK => ?_)
      go_simp
      refine (implSeal_is HS.out HBD.out).mono ?_
      rintro e u ⟨rfl, hb⟩
      have HBu : Hid (Below w.heap.size w u) := below_call HBy.out hb
      clear hb
      go_wp2_with fail
      refine hK.out _ _ trivial ?_
      clear hK K
      refine held_one 8 1 rfl (by kernel_rfl) rfl (by kernel_rfl) (fun K hK => ?_)
      go_simp
      refine (implPut_is HPR.out HSS.out).mono ?_
      rintro e t ⟨rfl, hb⟩
      have HBt : Hid (Below w.heap.size w t) := below_call HBu.out hb
      clear hb
      go_wp2_with fail
      refine hK.out _ _ trivial ?_
      clear hK K
      refine held_one 9 0 rfl (by kernel_rfl) rfl (by kernel_rfl) (fun K hK => ?_)
      go_simp
      refine hK.out _ _ trivial ?_
      clear hK K
      refine held_done (by kernel_rfl) ?_
      go_wp2
      go_ret
      exact ⟨rfl, HBt.out⟩
  · skip
    go_simp
    refine (layEachT_is HC.out (rowT_drew HR.out) HN.out HW.out HL.out).mono ?_
    rintro e q ⟨rfl, hb⟩
    have HBq : Hid (Below w.heap.size w q) := below_call (Below.refl _ _).drew hb
    clear hb
    go_wp2_with fail
    refine hK.out _ _ trivial ?_
    clear hK K
    have hcr := conv_oneA d o q HD.out
    refine held_one 1 6 rfl (by kernel_rfl) rfl (by kernel_rfl) (fun K hK => ?_)
    go_simp
    refine hK.out _ _ trivial ?_
    clear hK K
    refine held_one 2 5 rfl (by kernel_rfl) rfl (by kernel_rfl) (fun K hK => ?_)
    go_simp
    refine hK.out _ _ trivial ?_
    clear hK K
    refine held_one 5 4 rfl (by kernel_rfl) rfl (by kernel_rfl) (fun K hK => ?_)
    go_simp
    refine hK.out _ _ trivial ?_
    clear hK K
    refine held_one 6 3 rfl (by kernel_rfl) rfl (by kernel_rfl) (fun K hK => ?_)
    go_simp
    refine (joinTwo_is (x := q.alloc (.cells #[.int .u8 (d.toNat : Int)] 5)) (by simp) HBJ.out).mono ?_
    rintro e y ⟨rfl, hb⟩
    have HBy : Hid (Below w.heap.size w y) := below_call (below_more HBq.out _) hb
    clear hb
    go_wp2_with fail
    refine hK.out _ _ trivial ?_
    clear hK K
    refine held_one 7 2 rfl (by kernel_rfl) rfl (by kernel_rfl) (fun K hK => ?_)
    go_simp
    refine (implSeal_is HS.out HBD.out).mono ?_
    rintro e u ⟨rfl, hb⟩
    have HBu : Hid (Below w.heap.size w u) := below_call HBy.out hb
    clear hb
    go_wp2_with fail
    refine hK.out _ _ trivial ?_
    clear hK K
    refine held_one 8 1 rfl (by kernel_rfl) rfl (by kernel_rfl) (fun K hK => ?_)
    go_simp
    refine (implPut_is HPR.out HSS.out).mono ?_
    rintro e t ⟨rfl, hb⟩
    have HBt : Hid (Below w.heap.size w t) := below_call HBu.out hb
    clear hb
    go_wp2_with fail
    refine hK.out _ _ trivial ?_
    clear hK K
    refine held_one 9 0 rfl (by kernel_rfl) rfl (by kernel_rfl) (fun K hK => ?_)
    go_simp
    refine hK.out _ _ trivial ?_
    clear hK K
    refine held_done (by kernel_rfl) ?_
    go_wp2
    go_ret
    exact ⟨rfl, HBt.out⟩
end Go.Proofs.YtnhehdobpibgkaaGreatDoor
