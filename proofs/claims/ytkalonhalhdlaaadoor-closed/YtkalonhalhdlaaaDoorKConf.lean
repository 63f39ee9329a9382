/-
  What one call of config does.
-/
import Derived.Test.YtkalonhalhdlaaaDoorKActs
namespace Go.Proofs.YtkalonhalhdlaaaDoor
open Go.RowKit

/-- Raw numbers of a configuration. -/
structure Raw where
  wide : Bool
  win : Int
  tim : Int
  tri : Int
  room : Int
def I64 (x : Int) : Prop := -9223372036854775808 ≤ x ∧ x ≤ 9223372036854775807
structure Raw.fits (x : Raw) : Prop where
  win : I64 x.win
  tim : I64 x.tim
  tri : I64 x.tri
  room : I64 x.room
def Raw.val (x : Raw) : Value := .agg #[.bool x.wide, .int .i64 x.win, .int .i64 x.tim, .int .i64 x.tri, .int .i64 x.room]
def Raw.cfg (x : Raw) (a : Nat) : Cfg := ⟨if x.wide then 128 else 8, 1 + pickN x.win (if x.wide then 15 else 7), 1 + pickN x.tim 10, 2 + pickN x.tri 9, 1 + pickN x.room 16, a⟩
theorem Raw.cfg_ok (x : Raw) {a : Nat} (ha : a = 1 ∨ a = 3) : (x.cfg a).ok := by
  have h1 := pickN_lt x.win 7 (by omega)
  have h2 := pickN_lt x.win 15 (by omega)
  have h3 := pickN_lt x.tim 10 (by omega)
  have h4 := pickN_lt x.tri 9 (by omega)
  have h5 := pickN_lt x.room 16 (by omega)
  cases hw : x.wide
  · refine ⟨?_, ?_, ?_, ?_, ?_, ?_, ?_, ?_, ?_, ?_, ha⟩ <;> simp [Raw.cfg, hw] <;> omega
  · refine ⟨?_, ?_, ?_, ?_, ?_, ?_, ?_, ?_, ?_, ?_, ha⟩ <;> simp [Raw.cfg, hw] <;> omega

set_option maxHeartbeats 8000000 in
set_option maxRecDepth 100000 in
theorem config_any (x : Raw) (hx : x.fits) (a : Nat) (w : World) :
    Calls Tryd.prog 12 #[x.val, .int .i64 a] w fun e w' => e = .returned (.agg #[.int .i64 (x.cfg a).m, .int .i64 (x.cfg a).win, .int .i64 (x.cfg a).tim, .int .i64 (x.cfg a).tri, .int .i64 (x.cfg a).room, .int .i64 (x.cfg a).addr]) ∧ Below w.heap.size w w' := by
  obtain ⟨wd, wi, ti, tr, ro⟩ := x
  obtain ⟨h1, h2, h3, h4⟩ := hx
  have l1 := pickN_lt wi 7 (by omega)
  have l1b := pickN_lt wi 15 (by omega)
  have l2 := pickN_lt ti 10 (by omega)
  have l3 := pickN_lt tr 9 (by omega)
  have l4 := pickN_lt ro 16 (by omega)
  simp only [Raw.cfg, Raw.val]
  unfold I64 at h1 h2 h3 h4
  cases wd with
  | false =>
    simp only [Bool.false_eq_true, if_false]
    go_enter Tryd.func12, Tryd.ntmps12
    go_wp2
    go_region_held3 (fun w' => w'.cell? ⟨w.heap.size, 1, none⟩ = some (.int .i64 wi) ∧ w'.cell? ⟨w.heap.size, 2, none⟩ = some (.int .i64 ti) ∧ w'.cell? ⟨w.heap.size, 3, none⟩ = some (.int .i64 tr) ∧ w'.cell? ⟨w.heap.size, 4, none⟩ = some (.int .i64 ro)) (go_keep) ((go_at_call 9; refine (pick_val _ _ _ (by assumption) (by decide) (by decide)).mono ?_; rintro e w' ⟨rfl, rfl⟩))
    all_goals go_wp2
    all_goals
      refine bodyPost_ret (v := .agg #[.int .i64 8, .int .i64 (1 + (pickN wi 7 : Nat) : Int), .int .i64 (1 + (pickN ti 10 : Nat) : Int), .int .i64 (2 + (pickN tr 9 : Nat) : Int), .int .i64 (1 + (pickN ro 16 : Nat) : Int), .int .i64 (a : Nat)]) (by simp [results, Tryd.results12, go_sem]) rfl ⟨?_, ((((Below.refl _ w).alloc (Nat.le_refl _) _).alloc (by simp) _).alloc (by simp; omega) _).drew⟩
      simp
  | true =>
    simp only [if_true]
    go_enter Tryd.func12, Tryd.ntmps12
    go_wp2
    go_region_held3 (fun w' => w'.cell? ⟨w.heap.size, 1, none⟩ = some (.int .i64 wi) ∧ w'.cell? ⟨w.heap.size, 2, none⟩ = some (.int .i64 ti) ∧ w'.cell? ⟨w.heap.size, 3, none⟩ = some (.int .i64 tr) ∧ w'.cell? ⟨w.heap.size, 4, none⟩ = some (.int .i64 ro)) (go_keep) ((go_at_call 9; refine (pick_val _ _ _ (by assumption) (by decide) (by decide)).mono ?_; rintro e w' ⟨rfl, rfl⟩))
    all_goals go_wp2_with fail
    all_goals (refine (pick_val _ _ _ (by assumption) (by decide) (by decide)).mono ?_; rintro e w' ⟨rfl, rfl⟩)
    all_goals go_wp2
    all_goals
      refine bodyPost_ret (v := .agg #[.int .i64 128, .int .i64 (1 + (pickN wi 15 : Nat) : Int), .int .i64 (1 + (pickN ti 10 : Nat) : Int), .int .i64 (2 + (pickN tr 9 : Nat) : Int), .int .i64 (1 + (pickN ro 16 : Nat) : Int), .int .i64 (a : Nat)]) (by simp [results, Tryd.results12, go_sem]) rfl ⟨?_, ((((Below.refl _ w).alloc (Nat.le_refl _) _).alloc (by simp) _).alloc (by simp; omega) _).drew⟩
      simp
end Go.Proofs.YtkalonhalhdlaaaDoor
