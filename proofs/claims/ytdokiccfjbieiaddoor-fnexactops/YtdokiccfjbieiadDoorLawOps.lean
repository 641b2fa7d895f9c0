/- The walk of FnExactOps. -/
import Derived.Test.YtdokiccfjbieiadDoorRows
import Derived.WalkKit
import Derived.WalkSpells
import Derived.WalkLawsBesides
import Derived.Outline
import Derived.ProofKit
import Derived.OpenShut
import Derived.ChangeArms
import Derived.LaidLaws
import Derived.MakeChecks
import Derived.Test.YtdokiccfjbieiadDoorBase
import Derived.Test.YtdokiccfjbieiadDoorRes
import Derived.Test.YtdokiccfjbieiadDoorOwnS
import Derived.Test.YtdokiccfjbieiadDoorOpsB
namespace Go.Proofs.YtdokiccfjbieiadDoor
open Go.RowKit

theorem opsAll_len : opsAll.length = 27 := by decide +kernel
set_option maxRecDepth 100000 in
set_option maxHeartbeats 1600000 in
theorem lawOps_walk (w : World) (hT : OpsTab w) : Calls Tryd.prog 3 #[] w fun e w' => e = .returned (.bool true) ∧ Below w.heap.size w w' := by
  have HT : Hid (_) := hT
  clear hT
  have hL : opsAll.length ≤ 27 := by rw [opsAll_len]; omega
  have HA : Hid (_ = _) := opsAll_len
  go_enter Tryd.func3, Tryd.ntmps3
  go_wp2_with fail
  refine (specOps_any _).mono ?_
  rintro e x1 ⟨v0, rfl, ho0, hb⟩
  have HO1 : Hid (OwnS x1 w.heap.size v0 opsAll) := ho0
  have HB1 : Hid (Below w.heap.size w x1) := hb
  clear hb ho0
  go_wp2_with fail
  refine (implOps_any _ (HT.out.below HB1.out)).mono ?_
  rintro e x2 ⟨v1, rfl, ho1, hb⟩
  have HO2 : Hid (OwnS x2 w.heap.size v0 opsAll) := HO1.out.stays hb
  have HP2 : Hid (OwnS x2 x1.heap.size v1 opsAll) := ho1
  have HQ2 : Hid (Below x1.heap.size x1 x2) := hb
  have HB2 : Hid (Below w.heap.size w x2) := below_call HB1.out hb
  clear hb ho1
  generalize hLL : opsAll = L at *
  go_wp2_with fail
  refine (eqStringS_any _ _ _ _ L L _ HP2.out HO2.out (by omega) (by omega)).mono ?_
  rintro e x3 ⟨rfl, hb⟩
  rw [decide_eq_true rfl]
  have HP3 : Hid (OwnS x3 x1.heap.size v1 L) := HP2.out.stays hb
  have HQ3 : Hid (Below x1.heap.size x1 x3) := below_call HQ2.out hb
  clear hb
  have hz3 := HQ3.out.size
  go_wp2_with fail
  refine (markStringS_any _ _ L 1 _ HP3.out hz3 (by omega) (by omega) (by omega)).mono ?_
  rintro e x4 ⟨rfl, ho, hb⟩
  have HP4 : Hid (OwnS x4 x1.heap.size v1 (marksS 1 L.length)) := ho
  have HQ4 : Hid (Below x1.heap.size x1 x4) := HQ3.out.trans hb
  have HO4 : Hid (OwnS x4 w.heap.size v0 L) := HO1.out.stays HQ4.out
  have HB4 : Hid (Below w.heap.size w x4) := below_call HB1.out HQ4.out
  clear hb ho
  have hn0 : ¬ (((1 + L.length : Nat) : Int) < 0) := by omega
  go_wp2_with fail
  refine (heldStringS_any _ _ L.length 1 _ HP4.out (by omega) (by omega) (by omega)).mono ?_
  rintro e x5 ⟨rfl, hb⟩
  have HP5 : Hid (OwnS x5 x1.heap.size v1 (marksS 1 L.length)) := HP4.out.stays hb
  have HO5 : Hid (OwnS x5 w.heap.size v0 L) := HO4.out.stays hb
  have HB5 : Hid (Below w.heap.size w x5) := below_call HB4.out hb
  clear hb
  go_wp2_with fail
  refine (implOps_any _ (HT.out.below HB5.out)).mono ?_
  rintro e x6 ⟨v2, rfl, ho2, hb⟩
  rw [hLL] at ho2
  have HP6 : Hid (OwnS x6 x1.heap.size v1 (marksS 1 L.length)) := HP5.out.stays hb
  have HO6 : Hid (OwnS x6 w.heap.size v0 L) := HO5.out.stays hb
  have HR6 : Hid (OwnS x6 x5.heap.size v2 L) := ho2
  have HB6 : Hid (Below w.heap.size w x6) := below_call HB5.out hb
  clear hb ho2
  go_wp2_with fail
  refine (eqStringS_any _ _ _ _ L L _ HR6.out HO6.out (by omega) (by omega)).mono ?_
  rintro e x7 ⟨rfl, hb⟩
  rw [decide_eq_true rfl]
  have HP7 : Hid (OwnS x7 x1.heap.size v1 (marksS 1 L.length)) := HP6.out.stays hb
  have HB7 : Hid (Below w.heap.size w x7) := below_call HB6.out hb
  clear hb
  go_wp2_with fail
  refine (heldStringS_any _ _ L.length 1 _ HP7.out (by omega) (by omega) (by omega)).mono ?_
  rintro e x8 ⟨rfl, hb⟩
  go_wp2
  go_ret
  exact ⟨rfl, below_call HB7.out hb⟩
end Go.Proofs.YtdokiccfjbieiadDoor
