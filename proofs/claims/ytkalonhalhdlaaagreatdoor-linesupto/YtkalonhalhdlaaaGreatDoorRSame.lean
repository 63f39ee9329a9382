/-
  What one call of sameFrame does at two frames that are the same.
-/
import Derived.Test.YtkalonhalhdlaaaGreatDoorRInv
import Derived.Test.YtkalonhalhdlaaaGreatDoorVFrs
import Derived.Test.YtkalonhalhdlaaaGreatDoorFWrite
namespace Go.Proofs.YtkalonhalhdlaaaGreatDoor
open Go.RowKit

set_option maxHeartbeats 2000000 in
set_option maxRecDepth 100000 in
theorem sameFrame_same (f : Fr) (q1 q2 : Option Addr) (c1 c2 : Nat) (w : World) (h1 : SrcIs w q1 f.info) (h2 : SrcIs w q2 f.info) :
    Calls Tryz.prog 37 #[frV f q1 c1, frV f q2 c2] w fun e w' => e = .returned (.bool true) ∧ Below w.heap.size w w' := by
  unfold frV
  obtain ⟨a, k, p, ns, nr, l⟩ := f
  have hb : ∀ o1 o2, Below w.heap.size w ((w.alloc o1).alloc o2) := fun o1 o2 => ((Below.refl _ w).alloc (Nat.le_refl _) o1).alloc (by simp) o2
  have v1 := fun o1 o2 => (h1.below (hb o1 o2) (Nat.le_refl _)).conv c1
  have v2 := fun o1 o2 => (h2.below (hb o1 o2) (Nat.le_refl _)).conv c2
  simp only at v1 v2
  clear h1 h2
  have HB := hide hb
  clear hb
  go_enter Tryz.func37, Tryz.ntmps37
  go_wp2
  exact bodyPost_ret (v := .bool true) (by simp [results, Tryz.results37, go_sem]) rfl ⟨rfl, unhide HB _ _⟩
end Go.Proofs.YtkalonhalhdlaaaGreatDoor
