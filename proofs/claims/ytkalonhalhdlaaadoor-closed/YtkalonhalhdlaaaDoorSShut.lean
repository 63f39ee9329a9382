/-
  What one call of isClosed does: a select with a default on the station's channel.
-/
import Derived.Test.YtkalonhalhdlaaaDoorSAck
import Derived.Conc.LoneSelect
namespace Go.Proofs.YtkalonhalhdlaaaDoor
open Go.Conc Go.RowKit

set_option maxHeartbeats 2000000 in
set_option maxRecDepth 100000 in
theorem isClosed_open (b ch cap s r : Nat) (tm : Bool) (w : World) (c6 : w.cell? ⟨b, 6, none⟩ = some (.chan (some ch))) (hc : w.heap[ch]? = some (.chan cap #[] false s r tm)) :
    Calls Tryd.prog 41 #[.pointer (some ⟨b, 0, none⟩)] w fun e w' => e = .returned (.bool false) ∧ w' = w := by
  refine calls_of_loneTo fun cs => ?_
  have e : Frame.enter Tryd.prog 41 #[.pointer (some ⟨b, 0, none⟩)] .normal = (base 41).at ⟨#[.pointer (some ⟨b, 0, none⟩), undef, undef, undef, undef, undef, undef, undef, undef, undef], []⟩ [.code (Tryd.f41.body.getD .skip)] := by
    simp [Frame.enter, Frame.at, Tryd.func41, base, Tryd.f41]
  rw [e]
  refine LoneTo.goes (n := 60) ?_
  simp only [Tryd.f41, Option.getD_some]
  s_c stepG_seq
  s_reg
  s_op
  s_c stepG_region_end
  s_c stepG_seq
  s_reg
  s_op
  s_op
  s_op
  s_op
  s_c stepG_region_end
  s_c stepG_seq
  s_reg
  s_stop
  refine LoneTo.step (step_lone_select_default (c := ch) (z := .agg #[]) (cap := cap) (s := s) (r := r) (tm := tm) (stepG_comm (cases := #[rcase ch (.agg #[])]) (blocking := false) (shape := .select) (w' := w) rfl rfl (by decide) (by simp [go_sem, execOp, rcase, Act.eval])) hc) ?_
  rw [Frame.finish_at]
  walk_nrm
  refine LoneTo.goes (n := 40) ?_
  s_op
  s_op
  s_c stepG_region_end
  s_c stepG_block
  s_cond false
  s_c stepG_seq
  s_reg
  s_op
  s_c stepG_region_end
  s_c stepG_ret'
  s_stop
  exact LoneTo.done ⟨.returned (.bool false), _, rfl, ⟨rfl, rfl⟩, rfl, rfl, rfl, rfl, _, Tryd.func41, by simp [results, Tryd.f41, Frame.at]⟩

set_option maxHeartbeats 2000000 in
set_option maxRecDepth 100000 in
theorem isClosed_shut (b ch cap s r : Nat) (tm : Bool) (w : World) (c6 : w.cell? ⟨b, 6, none⟩ = some (.chan (some ch))) (hc : w.heap[ch]? = some (.chan cap #[] true s r tm)) :
    Calls Tryd.prog 41 #[.pointer (some ⟨b, 0, none⟩)] w fun e w' => e = .returned (.bool true) ∧ w' = w := by
  refine calls_of_loneTo fun cs => ?_
  have e : Frame.enter Tryd.prog 41 #[.pointer (some ⟨b, 0, none⟩)] .normal = (base 41).at ⟨#[.pointer (some ⟨b, 0, none⟩), undef, undef, undef, undef, undef, undef, undef, undef, undef], []⟩ [.code (Tryd.f41.body.getD .skip)] := by
    simp [Frame.enter, Frame.at, Tryd.func41, base, Tryd.f41]
  rw [e]
  refine LoneTo.goes (n := 60) ?_
  simp only [Tryd.f41, Option.getD_some]
  s_c stepG_seq
  s_reg
  s_op
  s_c stepG_region_end
  s_c stepG_seq
  s_reg
  s_op
  s_op
  s_op
  s_op
  s_c stepG_region_end
  s_c stepG_seq
  s_reg
  s_stop
  refine LoneTo.step (step_lone_select_recv_shut (c := ch) (z := .agg #[]) (cap := cap) (s := s) (r := r) (tm := tm) (stepG_comm (cases := #[rcase ch (.agg #[])]) (blocking := false) (shape := .select) (w' := w) rfl rfl (by decide) (by simp [go_sem, execOp, rcase, Act.eval])) hc) ?_
  rw [Frame.finish_at]
  walk_nrm
  refine LoneTo.goes (n := 40) ?_
  s_op
  s_op
  s_c stepG_region_end
  s_c stepG_block
  s_cond true
  s_c stepG_seq
  s_reg
  s_op
  s_c stepG_region_end
  s_c stepG_ret'
  s_stop
  exact LoneTo.done ⟨.returned (.bool true), _, rfl, ⟨rfl, rfl⟩, rfl, rfl, rfl, rfl, _, Tryd.func41, by simp [results, Tryd.f41, Frame.at]⟩

theorem isClosed_any {w : World} {own : Nat → Nat} {i b : Nat} {c : Cfg} {s : St} {cl : Bool} {ch : Nat} {q cm o ev : Value} {qe ce oe : List Value} (h : SAt w own i b c s cl ch q cm o ev qe ce oe) :
    Calls Tryd.prog 41 #[.pointer (some ⟨b, 0, none⟩)] w fun e w' => e = .returned (.bool cl) ∧ w' = w := by
  cases cl with
  | false => exact isClosed_open b ch 0 0 0 false w h.c_ch h.chan
  | true => exact isClosed_shut b ch 0 0 0 false w h.c_ch h.chan
end Go.Proofs.YtkalonhalhdlaaaDoor
