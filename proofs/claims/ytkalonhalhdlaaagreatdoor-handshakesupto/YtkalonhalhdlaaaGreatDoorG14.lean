import Derived.Test.YtkalonhalhdlaaaGreatDoorG13
import Derived.Test.YtkalonhalhdlaaaGreatDoorG05
import Derived.Lib.SlBytesConst
import Derived.Great.BuildSlice
/-
  What supervised of the document's station does.
-/
namespace Go.Proofs.YtkalonhalhdlaaaGreatDoor
open Go.RowKit
section
variable {w : World} {own : Nat → Nat} {i b : Nat} {c : Cfg} {s : St} {cl : Bool} {q cm o ev : Value} {ce oe : List Value}
set_option maxHeartbeats 4000000 in
set_option maxRecDepth 100000 in
theorem sup_2_n_r (h : TAt w own i b c s cl q cm o ev ce oe) (fa : Int) (n : Nat) (_hn : n < c.m) (fns : Int) (fq : Option Addr) (fl fc : Nat) :
    Calls Tryz.prog 150 #[.pointer (some ⟨b, 0, none⟩), .agg #[.int .i64 fa, .int .i64 2, .bool false, .int .i64 fns, .int .i64 (n : Nat), .slice fq fl fc], .bool false] w fun e w' => TDid i b c ({ s with peer := false, vs := s.vs }) cl own w e w' := by
  have hlt := h.lt
  have hA0 := alloc1_a w (.cells #[.int .i64 fa, .int .i64 2, .bool false, .int .i64 fns, .int .i64 (n : Nat), .slice fq fl fc] 30)
  have hbA := (Below.refl w.heap.size w).alloc (Nat.le_refl _) (.cells #[.int .i64 fa, .int .i64 2, .bool false, .int .i64 fns, .int .i64 (n : Nat), .slice fq fl fc] 30)
  go_enter Tryz.func150, Tryz.ntmps150
  go_upto_region 1 with fail
  generalize w.alloc (.cells #[.int .i64 fa, .int .i64 2, .bool false, .int .i64 fns, .int .i64 (n : Nat), .slice fq fl fc] 30) = W0 at *
  generalize hnB : w.heap.size = nB at *
  have y1 : W0.cell? ⟨nB, 1, none⟩ = some (.int .i64 2) := by rw [Lib.cell_of_heap hA0]; rfl
  have y2 : W0.cell? ⟨nB, 2, none⟩ = some (.bool false) := by rw [Lib.cell_of_heap hA0]; rfl
  have y4 : W0.cell? ⟨nB, 4, none⟩ = some (.int .i64 (n : Nat)) := by rw [Lib.cell_of_heap hA0]; rfl
  have hbA2 : Below w.heap.size w W0 := hnB ▸ hbA
  have h0 := h.later hbA2
  have c7 : W0.cell? ⟨b, 7, none⟩ = some (.int .i64 s.vs) := h0.cell 7 rfl
  have c12 : W0.cell? ⟨b, 12, none⟩ = some (.int .i64 s.timer) := h0.cell 12 rfl
  have c14 : W0.cell? ⟨b, 14, none⟩ = some (.bool s.polling) := h0.cell 14 rfl
  have c15 : W0.cell? ⟨b, 15, none⟩ = some (.bool s.peer) := h0.cell 15 rfl
  skip
  have fz := h0.fz
  have n1 : ¬ nB = b := by omega
  have n2 : ¬ b = nB := by omega
  have hK : Keeps (· = b) W0 (W0.setCell ⟨b, 15, none⟩ (.bool false)) := ((Keeps.refl _ W0).setB 15 _)
  have h2 := h0.wrote hK ((h0.hd.peer false).as { s with peer := false, vs := s.vs } rfl) rfl rfl rfl rfl ⟨h0.sok.state, h0.sok.vs, h0.sok.va, h0.sok.vr, h0.sok.vm, h0.sok.q20, h0.sok.q32, h0.sok.timer, h0.sok.tries, h0.sok.came⟩
  have HU := hide (Upd.of hbA2 (h0.upd hK))
  have HR := hide (And.intro h2 (unhide HU))
  clear h h0 h2 hK hA0 hbA hbA2 HU
  go_wp2
  go_end0
  exact ⟨rfl, _, ⟨_, _, _, _, _, _, (unhide HR).1⟩, (unhide HR).2⟩
set_option maxHeartbeats 4000000 in
set_option maxRecDepth 100000 in
theorem sup_2_n_c (h : TAt w own i b c s cl q cm o ev ce oe) (fa : Int) (n : Nat) (_hn : n < c.m) (fns : Int) (fq : Option Addr) (fl fc : Nat) :
    Calls Tryz.prog 150 #[.pointer (some ⟨b, 0, none⟩), .agg #[.int .i64 fa, .int .i64 2, .bool false, .int .i64 fns, .int .i64 (n : Nat), .slice fq fl fc], .bool true] w fun e w' => TDid i b c ({ s with peer := false, vs := s.vs }) cl own w e w' := by
  have hlt := h.lt
  have hA0 := alloc1_a w (.cells #[.int .i64 fa, .int .i64 2, .bool false, .int .i64 fns, .int .i64 (n : Nat), .slice fq fl fc] 30)
  have hbA := (Below.refl w.heap.size w).alloc (Nat.le_refl _) (.cells #[.int .i64 fa, .int .i64 2, .bool false, .int .i64 fns, .int .i64 (n : Nat), .slice fq fl fc] 30)
  go_enter Tryz.func150, Tryz.ntmps150
  go_upto_region 1 with fail
  generalize w.alloc (.cells #[.int .i64 fa, .int .i64 2, .bool false, .int .i64 fns, .int .i64 (n : Nat), .slice fq fl fc] 30) = W0 at *
  generalize hnB : w.heap.size = nB at *
  have y1 : W0.cell? ⟨nB, 1, none⟩ = some (.int .i64 2) := by rw [Lib.cell_of_heap hA0]; rfl
  have y2 : W0.cell? ⟨nB, 2, none⟩ = some (.bool false) := by rw [Lib.cell_of_heap hA0]; rfl
  have y4 : W0.cell? ⟨nB, 4, none⟩ = some (.int .i64 (n : Nat)) := by rw [Lib.cell_of_heap hA0]; rfl
  have hbA2 : Below w.heap.size w W0 := hnB ▸ hbA
  have h0 := h.later hbA2
  have c7 : W0.cell? ⟨b, 7, none⟩ = some (.int .i64 s.vs) := h0.cell 7 rfl
  have c12 : W0.cell? ⟨b, 12, none⟩ = some (.int .i64 s.timer) := h0.cell 12 rfl
  have c14 : W0.cell? ⟨b, 14, none⟩ = some (.bool s.polling) := h0.cell 14 rfl
  have c15 : W0.cell? ⟨b, 15, none⟩ = some (.bool s.peer) := h0.cell 15 rfl
  skip
  have fz := h0.fz
  have n1 : ¬ nB = b := by omega
  have n2 : ¬ b = nB := by omega
  have hK : Keeps (· = b) W0 (W0.setCell ⟨b, 15, none⟩ (.bool false)) := ((Keeps.refl _ W0).setB 15 _)
  have h2 := h0.wrote hK ((h0.hd.peer false).as { s with peer := false, vs := s.vs } rfl) rfl rfl rfl rfl ⟨h0.sok.state, h0.sok.vs, h0.sok.va, h0.sok.vr, h0.sok.vm, h0.sok.q20, h0.sok.q32, h0.sok.timer, h0.sok.tries, h0.sok.came⟩
  have HU := hide (Upd.of hbA2 (h0.upd hK))
  have HR := hide (And.intro h2 (unhide HU))
  clear h h0 h2 hK hA0 hbA hbA2 HU
  go_wp2
  go_end0
  exact ⟨rfl, _, ⟨_, _, _, _, _, _, (unhide HR).1⟩, (unhide HR).2⟩
set_option maxHeartbeats 4000000 in
set_option maxRecDepth 100000 in
theorem sup_2_p_c (h : TAt w own i b c s cl q cm o ev ce oe) (fa : Int) (n : Nat) (_hn : n < c.m) (fns : Int) (fq : Option Addr) (fl fc : Nat) (hl : s.out.length ≤ 2199023255552) :
    Calls Tryz.prog 150 #[.pointer (some ⟨b, 0, none⟩), .agg #[.int .i64 fa, .int .i64 2, .bool true, .int .i64 fns, .int .i64 (n : Nat), .slice fq fl fc], .bool true] w fun e w' => TDid i b c (answer c true { s with peer := false, vs := s.vs }) cl own w e w' := by
  have hlt := h.lt
  have hA0 := alloc1_a w (.cells #[.int .i64 fa, .int .i64 2, .bool true, .int .i64 fns, .int .i64 (n : Nat), .slice fq fl fc] 30)
  have hbA := (Below.refl w.heap.size w).alloc (Nat.le_refl _) (.cells #[.int .i64 fa, .int .i64 2, .bool true, .int .i64 fns, .int .i64 (n : Nat), .slice fq fl fc] 30)
  go_enter Tryz.func150, Tryz.ntmps150
  go_upto_region 1 with fail
  generalize w.alloc (.cells #[.int .i64 fa, .int .i64 2, .bool true, .int .i64 fns, .int .i64 (n : Nat), .slice fq fl fc] 30) = W0 at *
  generalize hnB : w.heap.size = nB at *
  have y1 : W0.cell? ⟨nB, 1, none⟩ = some (.int .i64 2) := by rw [Lib.cell_of_heap hA0]; rfl
  have y2 : W0.cell? ⟨nB, 2, none⟩ = some (.bool true) := by rw [Lib.cell_of_heap hA0]; rfl
  have y4 : W0.cell? ⟨nB, 4, none⟩ = some (.int .i64 (n : Nat)) := by rw [Lib.cell_of_heap hA0]; rfl
  have hbA2 : Below w.heap.size w W0 := hnB ▸ hbA
  have h0 := h.later hbA2
  have c7 : W0.cell? ⟨b, 7, none⟩ = some (.int .i64 s.vs) := h0.cell 7 rfl
  have c12 : W0.cell? ⟨b, 12, none⟩ = some (.int .i64 s.timer) := h0.cell 12 rfl
  have c14 : W0.cell? ⟨b, 14, none⟩ = some (.bool s.polling) := h0.cell 14 rfl
  have c15 : W0.cell? ⟨b, 15, none⟩ = some (.bool s.peer) := h0.cell 15 rfl
  skip
  have fz := h0.fz
  have n1 : ¬ nB = b := by omega
  have n2 : ¬ b = nB := by omega
  have hK : Keeps (· = b) W0 (W0.setCell ⟨b, 15, none⟩ (.bool false)) := ((Keeps.refl _ W0).setB 15 _)
  have h2 := h0.wrote hK ((h0.hd.peer false).as { s with peer := false, vs := s.vs } rfl) rfl rfl rfl rfl ⟨h0.sok.state, h0.sok.vs, h0.sok.va, h0.sok.vr, h0.sok.vm, h0.sok.q20, h0.sok.q32, h0.sok.timer, h0.sok.tries, h0.sok.came⟩
  have HU := hide (Upd.of hbA2 (h0.upd hK))
  have K2 := hide (status_ref h2 false true hl)
  clear h h0 h2 hK hA0 hbA hbA2
  go_wp2_with fail
  refine (unhide K2).mono ?_
  rintro e w2 ⟨rfl, own2, o2, oe2, h3, u3⟩
  have HR := hide (And.intro h3 ((unhide HU).trans u3))
  clear h3 u3 K2 HU c7 c12 c14 c15 fz y1 y2 y4
  go_wp2
  go_end0
  exact ⟨rfl, _, ⟨_, _, _, _, _, _, (unhide HR).1⟩, (unhide HR).2⟩
set_option maxHeartbeats 4000000 in
set_option maxRecDepth 100000 in
theorem sup_2_p_r_w (h : TAt w own i b c s cl q cm o ev ce oe) (fa : Int) (n : Nat) (hn : n < c.m) (fns : Int) (fq : Option Addr) (fl fc : Nat) (hpol : s.polling = true) :
    Calls Tryz.prog 150 #[.pointer (some ⟨b, 0, none⟩), .agg #[.int .i64 fa, .int .i64 2, .bool true, .int .i64 fns, .int .i64 (n : Nat), .slice fq fl fc], .bool false] w fun e w' => TDid i b c ({ s with peer := false, vs := n, polling := false, timer := 0 }) cl own w e w' := by
  have hlt := h.lt
  have hA0 := alloc1_a w (.cells #[.int .i64 fa, .int .i64 2, .bool true, .int .i64 fns, .int .i64 (n : Nat), .slice fq fl fc] 30)
  have hbA := (Below.refl w.heap.size w).alloc (Nat.le_refl _) (.cells #[.int .i64 fa, .int .i64 2, .bool true, .int .i64 fns, .int .i64 (n : Nat), .slice fq fl fc] 30)
  go_enter Tryz.func150, Tryz.ntmps150
  go_upto_region 1 with fail
  generalize w.alloc (.cells #[.int .i64 fa, .int .i64 2, .bool true, .int .i64 fns, .int .i64 (n : Nat), .slice fq fl fc] 30) = W0 at *
  generalize hnB : w.heap.size = nB at *
  have y1 : W0.cell? ⟨nB, 1, none⟩ = some (.int .i64 2) := by rw [Lib.cell_of_heap hA0]; rfl
  have y2 : W0.cell? ⟨nB, 2, none⟩ = some (.bool true) := by rw [Lib.cell_of_heap hA0]; rfl
  have y4 : W0.cell? ⟨nB, 4, none⟩ = some (.int .i64 (n : Nat)) := by rw [Lib.cell_of_heap hA0]; rfl
  have hbA2 : Below w.heap.size w W0 := hnB ▸ hbA
  have h0 := h.later hbA2
  have c7 : W0.cell? ⟨b, 7, none⟩ = some (.int .i64 s.vs) := h0.cell 7 rfl
  have c12 : W0.cell? ⟨b, 12, none⟩ = some (.int .i64 s.timer) := h0.cell 12 rfl
  have c14 : W0.cell? ⟨b, 14, none⟩ = some (.bool s.polling) := h0.cell 14 rfl
  have c15 : W0.cell? ⟨b, 15, none⟩ = some (.bool s.peer) := h0.cell 15 rfl
  rw [hpol] at c14
  have fz := h0.fz
  have n1 : ¬ nB = b := by omega
  have n2 : ¬ b = nB := by omega
  have hK : Keeps (· = b) W0 ((((W0.setCell ⟨b, 15, none⟩ (.bool false)).setCell ⟨b, 14, none⟩ (.bool false)).setCell ⟨b, 7, none⟩ (.int .i64 (n : Nat))).setCell ⟨b, 12, none⟩ (.int .i64 (0 : Nat))) := (((((Keeps.refl _ W0).setB 15 _).setB 14 _).setB 7 _).setB 12 _)
  have h2 := h0.wrote hK (((((h0.hd.peer false).polling false).vs n).timer 0).as { s with peer := false, vs := n, polling := false, timer := 0 } rfl) rfl rfl rfl rfl ⟨h0.sok.state, hn, h0.sok.va, h0.sok.vr, h0.sok.vm, h0.sok.q20, h0.sok.q32, Nat.zero_le _, h0.sok.tries, h0.sok.came⟩
  have HU := hide (Upd.of hbA2 (h0.upd hK))
  have HR := hide (And.intro h2 (unhide HU))
  clear h h0 h2 hK hA0 hbA hbA2 HU
  go_wp2
  go_end0
  exact ⟨rfl, _, ⟨_, _, _, _, _, _, (unhide HR).1⟩, (unhide HR).2⟩
set_option maxHeartbeats 4000000 in
set_option maxRecDepth 100000 in
theorem sup_2_p_r_i (h : TAt w own i b c s cl q cm o ev ce oe) (fa : Int) (n : Nat) (_hn : n < c.m) (fns : Int) (fq : Option Addr) (fl fc : Nat) (hpol : s.polling = false) :
    Calls Tryz.prog 150 #[.pointer (some ⟨b, 0, none⟩), .agg #[.int .i64 fa, .int .i64 2, .bool true, .int .i64 fns, .int .i64 (n : Nat), .slice fq fl fc], .bool false] w fun e w' => TDid i b c ({ s with peer := false, vs := s.vs }) cl own w e w' := by
  have hlt := h.lt
  have hA0 := alloc1_a w (.cells #[.int .i64 fa, .int .i64 2, .bool true, .int .i64 fns, .int .i64 (n : Nat), .slice fq fl fc] 30)
  have hbA := (Below.refl w.heap.size w).alloc (Nat.le_refl _) (.cells #[.int .i64 fa, .int .i64 2, .bool true, .int .i64 fns, .int .i64 (n : Nat), .slice fq fl fc] 30)
  go_enter Tryz.func150, Tryz.ntmps150
  go_upto_region 1 with fail
  generalize w.alloc (.cells #[.int .i64 fa, .int .i64 2, .bool true, .int .i64 fns, .int .i64 (n : Nat), .slice fq fl fc] 30) = W0 at *
  generalize hnB : w.heap.size = nB at *
  have y1 : W0.cell? ⟨nB, 1, none⟩ = some (.int .i64 2) := by rw [Lib.cell_of_heap hA0]; rfl
  have y2 : W0.cell? ⟨nB, 2, none⟩ = some (.bool true) := by rw [Lib.cell_of_heap hA0]; rfl
  have y4 : W0.cell? ⟨nB, 4, none⟩ = some (.int .i64 (n : Nat)) := by rw [Lib.cell_of_heap hA0]; rfl
  have hbA2 : Below w.heap.size w W0 := hnB ▸ hbA
  have h0 := h.later hbA2
  have c7 : W0.cell? ⟨b, 7, none⟩ = some (.int .i64 s.vs) := h0.cell 7 rfl
  have c12 : W0.cell? ⟨b, 12, none⟩ = some (.int .i64 s.timer) := h0.cell 12 rfl
  have c14 : W0.cell? ⟨b, 14, none⟩ = some (.bool s.polling) := h0.cell 14 rfl
  have c15 : W0.cell? ⟨b, 15, none⟩ = some (.bool s.peer) := h0.cell 15 rfl
  rw [hpol] at c14
  have fz := h0.fz
  have n1 : ¬ nB = b := by omega
  have n2 : ¬ b = nB := by omega
  have hK : Keeps (· = b) W0 (W0.setCell ⟨b, 15, none⟩ (.bool false)) := ((Keeps.refl _ W0).setB 15 _)
  have h2 := h0.wrote hK ((h0.hd.peer false).as { s with peer := false, vs := s.vs } rfl) rfl rfl rfl rfl ⟨h0.sok.state, h0.sok.vs, h0.sok.va, h0.sok.vr, h0.sok.vm, h0.sok.q20, h0.sok.q32, h0.sok.timer, h0.sok.tries, h0.sok.came⟩
  have HU := hide (Upd.of hbA2 (h0.upd hK))
  have HR := hide (And.intro h2 (unhide HU))
  clear h h0 h2 hK hA0 hbA hbA2 HU
  go_wp2
  go_end0
  exact ⟨rfl, _, ⟨_, _, _, _, _, _, (unhide HR).1⟩, (unhide HR).2⟩
set_option maxHeartbeats 4000000 in
set_option maxRecDepth 100000 in
theorem sup_3_n_r (h : TAt w own i b c s cl q cm o ev ce oe) (fa : Int) (n : Nat) (_hn : n < c.m) (fns : Int) (fq : Option Addr) (fl fc : Nat) :
    Calls Tryz.prog 150 #[.pointer (some ⟨b, 0, none⟩), .agg #[.int .i64 fa, .int .i64 3, .bool false, .int .i64 fns, .int .i64 (n : Nat), .slice fq fl fc], .bool false] w fun e w' => TDid i b c ({ s with peer := true, vs := s.vs }) cl own w e w' := by
  have hlt := h.lt
  have hA0 := alloc1_a w (.cells #[.int .i64 fa, .int .i64 3, .bool false, .int .i64 fns, .int .i64 (n : Nat), .slice fq fl fc] 30)
  have hbA := (Below.refl w.heap.size w).alloc (Nat.le_refl _) (.cells #[.int .i64 fa, .int .i64 3, .bool false, .int .i64 fns, .int .i64 (n : Nat), .slice fq fl fc] 30)
  go_enter Tryz.func150, Tryz.ntmps150
  go_upto_region 1 with fail
  generalize w.alloc (.cells #[.int .i64 fa, .int .i64 3, .bool false, .int .i64 fns, .int .i64 (n : Nat), .slice fq fl fc] 30) = W0 at *
  generalize hnB : w.heap.size = nB at *
  have y1 : W0.cell? ⟨nB, 1, none⟩ = some (.int .i64 3) := by rw [Lib.cell_of_heap hA0]; rfl
  have y2 : W0.cell? ⟨nB, 2, none⟩ = some (.bool false) := by rw [Lib.cell_of_heap hA0]; rfl
  have y4 : W0.cell? ⟨nB, 4, none⟩ = some (.int .i64 (n : Nat)) := by rw [Lib.cell_of_heap hA0]; rfl
  have hbA2 : Below w.heap.size w W0 := hnB ▸ hbA
  have h0 := h.later hbA2
  have c7 : W0.cell? ⟨b, 7, none⟩ = some (.int .i64 s.vs) := h0.cell 7 rfl
  have c12 : W0.cell? ⟨b, 12, none⟩ = some (.int .i64 s.timer) := h0.cell 12 rfl
  have c14 : W0.cell? ⟨b, 14, none⟩ = some (.bool s.polling) := h0.cell 14 rfl
  have c15 : W0.cell? ⟨b, 15, none⟩ = some (.bool s.peer) := h0.cell 15 rfl
  skip
  have fz := h0.fz
  have n1 : ¬ nB = b := by omega
  have n2 : ¬ b = nB := by omega
  have hK : Keeps (· = b) W0 (W0.setCell ⟨b, 15, none⟩ (.bool true)) := ((Keeps.refl _ W0).setB 15 _)
  have h2 := h0.wrote hK ((h0.hd.peer true).as { s with peer := true, vs := s.vs } rfl) rfl rfl rfl rfl ⟨h0.sok.state, h0.sok.vs, h0.sok.va, h0.sok.vr, h0.sok.vm, h0.sok.q20, h0.sok.q32, h0.sok.timer, h0.sok.tries, h0.sok.came⟩
  have HU := hide (Upd.of hbA2 (h0.upd hK))
  have HR := hide (And.intro h2 (unhide HU))
  clear h h0 h2 hK hA0 hbA hbA2 HU
  go_wp2
  go_end0
  exact ⟨rfl, _, ⟨_, _, _, _, _, _, (unhide HR).1⟩, (unhide HR).2⟩
set_option maxHeartbeats 4000000 in
set_option maxRecDepth 100000 in
theorem sup_3_n_c (h : TAt w own i b c s cl q cm o ev ce oe) (fa : Int) (n : Nat) (_hn : n < c.m) (fns : Int) (fq : Option Addr) (fl fc : Nat) :
    Calls Tryz.prog 150 #[.pointer (some ⟨b, 0, none⟩), .agg #[.int .i64 fa, .int .i64 3, .bool false, .int .i64 fns, .int .i64 (n : Nat), .slice fq fl fc], .bool true] w fun e w' => TDid i b c ({ s with peer := true, vs := s.vs }) cl own w e w' := by
  have hlt := h.lt
  have hA0 := alloc1_a w (.cells #[.int .i64 fa, .int .i64 3, .bool false, .int .i64 fns, .int .i64 (n : Nat), .slice fq fl fc] 30)
  have hbA := (Below.refl w.heap.size w).alloc (Nat.le_refl _) (.cells #[.int .i64 fa, .int .i64 3, .bool false, .int .i64 fns, .int .i64 (n : Nat), .slice fq fl fc] 30)
  go_enter Tryz.func150, Tryz.ntmps150
  go_upto_region 1 with fail
  generalize w.alloc (.cells #[.int .i64 fa, .int .i64 3, .bool false, .int .i64 fns, .int .i64 (n : Nat), .slice fq fl fc] 30) = W0 at *
  generalize hnB : w.heap.size = nB at *
  have y1 : W0.cell? ⟨nB, 1, none⟩ = some (.int .i64 3) := by rw [Lib.cell_of_heap hA0]; rfl
  have y2 : W0.cell? ⟨nB, 2, none⟩ = some (.bool false) := by rw [Lib.cell_of_heap hA0]; rfl
  have y4 : W0.cell? ⟨nB, 4, none⟩ = some (.int .i64 (n : Nat)) := by rw [Lib.cell_of_heap hA0]; rfl
  have hbA2 : Below w.heap.size w W0 := hnB ▸ hbA
  have h0 := h.later hbA2
  have c7 : W0.cell? ⟨b, 7, none⟩ = some (.int .i64 s.vs) := h0.cell 7 rfl
  have c12 : W0.cell? ⟨b, 12, none⟩ = some (.int .i64 s.timer) := h0.cell 12 rfl
  have c14 : W0.cell? ⟨b, 14, none⟩ = some (.bool s.polling) := h0.cell 14 rfl
  have c15 : W0.cell? ⟨b, 15, none⟩ = some (.bool s.peer) := h0.cell 15 rfl
  skip
  have fz := h0.fz
  have n1 : ¬ nB = b := by omega
  have n2 : ¬ b = nB := by omega
  have hK : Keeps (· = b) W0 (W0.setCell ⟨b, 15, none⟩ (.bool true)) := ((Keeps.refl _ W0).setB 15 _)
  have h2 := h0.wrote hK ((h0.hd.peer true).as { s with peer := true, vs := s.vs } rfl) rfl rfl rfl rfl ⟨h0.sok.state, h0.sok.vs, h0.sok.va, h0.sok.vr, h0.sok.vm, h0.sok.q20, h0.sok.q32, h0.sok.timer, h0.sok.tries, h0.sok.came⟩
  have HU := hide (Upd.of hbA2 (h0.upd hK))
  have HR := hide (And.intro h2 (unhide HU))
  clear h h0 h2 hK hA0 hbA hbA2 HU
  go_wp2
  go_end0
  exact ⟨rfl, _, ⟨_, _, _, _, _, _, (unhide HR).1⟩, (unhide HR).2⟩
set_option maxHeartbeats 4000000 in
set_option maxRecDepth 100000 in
theorem sup_3_p_c (h : TAt w own i b c s cl q cm o ev ce oe) (fa : Int) (n : Nat) (_hn : n < c.m) (fns : Int) (fq : Option Addr) (fl fc : Nat) (hl : s.out.length ≤ 2199023255552) :
    Calls Tryz.prog 150 #[.pointer (some ⟨b, 0, none⟩), .agg #[.int .i64 fa, .int .i64 3, .bool true, .int .i64 fns, .int .i64 (n : Nat), .slice fq fl fc], .bool true] w fun e w' => TDid i b c (answer c true { s with peer := true, vs := s.vs }) cl own w e w' := by
  have hlt := h.lt
  have hA0 := alloc1_a w (.cells #[.int .i64 fa, .int .i64 3, .bool true, .int .i64 fns, .int .i64 (n : Nat), .slice fq fl fc] 30)
  have hbA := (Below.refl w.heap.size w).alloc (Nat.le_refl _) (.cells #[.int .i64 fa, .int .i64 3, .bool true, .int .i64 fns, .int .i64 (n : Nat), .slice fq fl fc] 30)
  go_enter Tryz.func150, Tryz.ntmps150
  go_upto_region 1 with fail
  generalize w.alloc (.cells #[.int .i64 fa, .int .i64 3, .bool true, .int .i64 fns, .int .i64 (n : Nat), .slice fq fl fc] 30) = W0 at *
  generalize hnB : w.heap.size = nB at *
  have y1 : W0.cell? ⟨nB, 1, none⟩ = some (.int .i64 3) := by rw [Lib.cell_of_heap hA0]; rfl
  have y2 : W0.cell? ⟨nB, 2, none⟩ = some (.bool true) := by rw [Lib.cell_of_heap hA0]; rfl
  have y4 : W0.cell? ⟨nB, 4, none⟩ = some (.int .i64 (n : Nat)) := by rw [Lib.cell_of_heap hA0]; rfl
  have hbA2 : Below w.heap.size w W0 := hnB ▸ hbA
  have h0 := h.later hbA2
  have c7 : W0.cell? ⟨b, 7, none⟩ = some (.int .i64 s.vs) := h0.cell 7 rfl
  have c12 : W0.cell? ⟨b, 12, none⟩ = some (.int .i64 s.timer) := h0.cell 12 rfl
  have c14 : W0.cell? ⟨b, 14, none⟩ = some (.bool s.polling) := h0.cell 14 rfl
  have c15 : W0.cell? ⟨b, 15, none⟩ = some (.bool s.peer) := h0.cell 15 rfl
  skip
  have fz := h0.fz
  have n1 : ¬ nB = b := by omega
  have n2 : ¬ b = nB := by omega
  have hK : Keeps (· = b) W0 (W0.setCell ⟨b, 15, none⟩ (.bool true)) := ((Keeps.refl _ W0).setB 15 _)
  have h2 := h0.wrote hK ((h0.hd.peer true).as { s with peer := true, vs := s.vs } rfl) rfl rfl rfl rfl ⟨h0.sok.state, h0.sok.vs, h0.sok.va, h0.sok.vr, h0.sok.vm, h0.sok.q20, h0.sok.q32, h0.sok.timer, h0.sok.tries, h0.sok.came⟩
  have HU := hide (Upd.of hbA2 (h0.upd hK))
  have K2 := hide (status_ref h2 false true hl)
  clear h h0 h2 hK hA0 hbA hbA2
  go_wp2_with fail
  refine (unhide K2).mono ?_
  rintro e w2 ⟨rfl, own2, o2, oe2, h3, u3⟩
  have HR := hide (And.intro h3 ((unhide HU).trans u3))
  clear h3 u3 K2 HU c7 c12 c14 c15 fz y1 y2 y4
  go_wp2
  go_end0
  exact ⟨rfl, _, ⟨_, _, _, _, _, _, (unhide HR).1⟩, (unhide HR).2⟩
set_option maxHeartbeats 4000000 in
set_option maxRecDepth 100000 in
theorem sup_3_p_r_w (h : TAt w own i b c s cl q cm o ev ce oe) (fa : Int) (n : Nat) (hn : n < c.m) (fns : Int) (fq : Option Addr) (fl fc : Nat) (hpol : s.polling = true) :
    Calls Tryz.prog 150 #[.pointer (some ⟨b, 0, none⟩), .agg #[.int .i64 fa, .int .i64 3, .bool true, .int .i64 fns, .int .i64 (n : Nat), .slice fq fl fc], .bool false] w fun e w' => TDid i b c ({ s with peer := true, vs := n, polling := false, timer := 0 }) cl own w e w' := by
  have hlt := h.lt
  have hA0 := alloc1_a w (.cells #[.int .i64 fa, .int .i64 3, .bool true, .int .i64 fns, .int .i64 (n : Nat), .slice fq fl fc] 30)
  have hbA := (Below.refl w.heap.size w).alloc (Nat.le_refl _) (.cells #[.int .i64 fa, .int .i64 3, .bool true, .int .i64 fns, .int .i64 (n : Nat), .slice fq fl fc] 30)
  go_enter Tryz.func150, Tryz.ntmps150
  go_upto_region 1 with fail
  generalize w.alloc (.cells #[.int .i64 fa, .int .i64 3, .bool true, .int .i64 fns, .int .i64 (n : Nat), .slice fq fl fc] 30) = W0 at *
  generalize hnB : w.heap.size = nB at *
  have y1 : W0.cell? ⟨nB, 1, none⟩ = some (.int .i64 3) := by rw [Lib.cell_of_heap hA0]; rfl
  have y2 : W0.cell? ⟨nB, 2, none⟩ = some (.bool true) := by rw [Lib.cell_of_heap hA0]; rfl
  have y4 : W0.cell? ⟨nB, 4, none⟩ = some (.int .i64 (n : Nat)) := by rw [Lib.cell_of_heap hA0]; rfl
  have hbA2 : Below w.heap.size w W0 := hnB ▸ hbA
  have h0 := h.later hbA2
  have c7 : W0.cell? ⟨b, 7, none⟩ = some (.int .i64 s.vs) := h0.cell 7 rfl
  have c12 : W0.cell? ⟨b, 12, none⟩ = some (.int .i64 s.timer) := h0.cell 12 rfl
  have c14 : W0.cell? ⟨b, 14, none⟩ = some (.bool s.polling) := h0.cell 14 rfl
  have c15 : W0.cell? ⟨b, 15, none⟩ = some (.bool s.peer) := h0.cell 15 rfl
  rw [hpol] at c14
  have fz := h0.fz
  have n1 : ¬ nB = b := by omega
  have n2 : ¬ b = nB := by omega
  have hK : Keeps (· = b) W0 ((((W0.setCell ⟨b, 15, none⟩ (.bool true)).setCell ⟨b, 14, none⟩ (.bool false)).setCell ⟨b, 7, none⟩ (.int .i64 (n : Nat))).setCell ⟨b, 12, none⟩ (.int .i64 (0 : Nat))) := (((((Keeps.refl _ W0).setB 15 _).setB 14 _).setB 7 _).setB 12 _)
  have h2 := h0.wrote hK (((((h0.hd.peer true).polling false).vs n).timer 0).as { s with peer := true, vs := n, polling := false, timer := 0 } rfl) rfl rfl rfl rfl ⟨h0.sok.state, hn, h0.sok.va, h0.sok.vr, h0.sok.vm, h0.sok.q20, h0.sok.q32, Nat.zero_le _, h0.sok.tries, h0.sok.came⟩
  have HU := hide (Upd.of hbA2 (h0.upd hK))
  have HR := hide (And.intro h2 (unhide HU))
  clear h h0 h2 hK hA0 hbA hbA2 HU
  go_wp2
  go_end0
  exact ⟨rfl, _, ⟨_, _, _, _, _, _, (unhide HR).1⟩, (unhide HR).2⟩
set_option maxHeartbeats 4000000 in
set_option maxRecDepth 100000 in
theorem sup_3_p_r_i (h : TAt w own i b c s cl q cm o ev ce oe) (fa : Int) (n : Nat) (_hn : n < c.m) (fns : Int) (fq : Option Addr) (fl fc : Nat) (hpol : s.polling = false) :
    Calls Tryz.prog 150 #[.pointer (some ⟨b, 0, none⟩), .agg #[.int .i64 fa, .int .i64 3, .bool true, .int .i64 fns, .int .i64 (n : Nat), .slice fq fl fc], .bool false] w fun e w' => TDid i b c ({ s with peer := true, vs := s.vs }) cl own w e w' := by
  have hlt := h.lt
  have hA0 := alloc1_a w (.cells #[.int .i64 fa, .int .i64 3, .bool true, .int .i64 fns, .int .i64 (n : Nat), .slice fq fl fc] 30)
  have hbA := (Below.refl w.heap.size w).alloc (Nat.le_refl _) (.cells #[.int .i64 fa, .int .i64 3, .bool true, .int .i64 fns, .int .i64 (n : Nat), .slice fq fl fc] 30)
  go_enter Tryz.func150, Tryz.ntmps150
  go_upto_region 1 with fail
  generalize w.alloc (.cells #[.int .i64 fa, .int .i64 3, .bool true, .int .i64 fns, .int .i64 (n : Nat), .slice fq fl fc] 30) = W0 at *
  generalize hnB : w.heap.size = nB at *
  have y1 : W0.cell? ⟨nB, 1, none⟩ = some (.int .i64 3) := by rw [Lib.cell_of_heap hA0]; rfl
  have y2 : W0.cell? ⟨nB, 2, none⟩ = some (.bool true) := by rw [Lib.cell_of_heap hA0]; rfl
  have y4 : W0.cell? ⟨nB, 4, none⟩ = some (.int .i64 (n : Nat)) := by rw [Lib.cell_of_heap hA0]; rfl
  have hbA2 : Below w.heap.size w W0 := hnB ▸ hbA
  have h0 := h.later hbA2
  have c7 : W0.cell? ⟨b, 7, none⟩ = some (.int .i64 s.vs) := h0.cell 7 rfl
  have c12 : W0.cell? ⟨b, 12, none⟩ = some (.int .i64 s.timer) := h0.cell 12 rfl
  have c14 : W0.cell? ⟨b, 14, none⟩ = some (.bool s.polling) := h0.cell 14 rfl
  have c15 : W0.cell? ⟨b, 15, none⟩ = some (.bool s.peer) := h0.cell 15 rfl
  rw [hpol] at c14
  have fz := h0.fz
  have n1 : ¬ nB = b := by omega
  have n2 : ¬ b = nB := by omega
  have hK : Keeps (· = b) W0 (W0.setCell ⟨b, 15, none⟩ (.bool true)) := ((Keeps.refl _ W0).setB 15 _)
  have h2 := h0.wrote hK ((h0.hd.peer true).as { s with peer := true, vs := s.vs } rfl) rfl rfl rfl rfl ⟨h0.sok.state, h0.sok.vs, h0.sok.va, h0.sok.vr, h0.sok.vm, h0.sok.q20, h0.sok.q32, h0.sok.timer, h0.sok.tries, h0.sok.came⟩
  have HU := hide (Upd.of hbA2 (h0.upd hK))
  have HR := hide (And.intro h2 (unhide HU))
  clear h h0 h2 hK hA0 hbA hbA2 HU
  go_wp2
  go_end0
  exact ⟨rfl, _, ⟨_, _, _, _, _, _, (unhide HR).1⟩, (unhide HR).2⟩
set_option maxHeartbeats 4000000 in
set_option maxRecDepth 100000 in
theorem sup_4_n_r (h : TAt w own i b c s cl q cm o ev ce oe) (fa : Int) (n : Nat) (hn : n < c.m) (fns : Int) (fq : Option Addr) (fl fc : Nat) :
    Calls Tryz.prog 150 #[.pointer (some ⟨b, 0, none⟩), .agg #[.int .i64 fa, .int .i64 4, .bool false, .int .i64 fns, .int .i64 (n : Nat), .slice fq fl fc], .bool false] w fun e w' => TDid i b c ({ s with peer := false, vs := n }) cl own w e w' := by
  have hlt := h.lt
  have hA0 := alloc1_a w (.cells #[.int .i64 fa, .int .i64 4, .bool false, .int .i64 fns, .int .i64 (n : Nat), .slice fq fl fc] 30)
  have hbA := (Below.refl w.heap.size w).alloc (Nat.le_refl _) (.cells #[.int .i64 fa, .int .i64 4, .bool false, .int .i64 fns, .int .i64 (n : Nat), .slice fq fl fc] 30)
  go_enter Tryz.func150, Tryz.ntmps150
  go_upto_region 1 with fail
  generalize w.alloc (.cells #[.int .i64 fa, .int .i64 4, .bool false, .int .i64 fns, .int .i64 (n : Nat), .slice fq fl fc] 30) = W0 at *
  generalize hnB : w.heap.size = nB at *
  have y1 : W0.cell? ⟨nB, 1, none⟩ = some (.int .i64 4) := by rw [Lib.cell_of_heap hA0]; rfl
  have y2 : W0.cell? ⟨nB, 2, none⟩ = some (.bool false) := by rw [Lib.cell_of_heap hA0]; rfl
  have y4 : W0.cell? ⟨nB, 4, none⟩ = some (.int .i64 (n : Nat)) := by rw [Lib.cell_of_heap hA0]; rfl
  have hbA2 : Below w.heap.size w W0 := hnB ▸ hbA
  have h0 := h.later hbA2
  have c7 : W0.cell? ⟨b, 7, none⟩ = some (.int .i64 s.vs) := h0.cell 7 rfl
  have c12 : W0.cell? ⟨b, 12, none⟩ = some (.int .i64 s.timer) := h0.cell 12 rfl
  have c14 : W0.cell? ⟨b, 14, none⟩ = some (.bool s.polling) := h0.cell 14 rfl
  have c15 : W0.cell? ⟨b, 15, none⟩ = some (.bool s.peer) := h0.cell 15 rfl
  skip
  have fz := h0.fz
  have n1 : ¬ nB = b := by omega
  have n2 : ¬ b = nB := by omega
  have hK : Keeps (· = b) W0 ((W0.setCell ⟨b, 15, none⟩ (.bool false)).setCell ⟨b, 7, none⟩ (.int .i64 (n : Nat))) := (((Keeps.refl _ W0).setB 15 _).setB 7 _)
  have h2 := h0.wrote hK (((h0.hd.peer false).vs n).as { s with peer := false, vs := n } rfl) rfl rfl rfl rfl ⟨h0.sok.state, hn, h0.sok.va, h0.sok.vr, h0.sok.vm, h0.sok.q20, h0.sok.q32, h0.sok.timer, h0.sok.tries, h0.sok.came⟩
  have HU := hide (Upd.of hbA2 (h0.upd hK))
  have HR := hide (And.intro h2 (unhide HU))
  clear h h0 h2 hK hA0 hbA hbA2 HU
  go_wp2
  go_end0
  exact ⟨rfl, _, ⟨_, _, _, _, _, _, (unhide HR).1⟩, (unhide HR).2⟩
set_option maxHeartbeats 4000000 in
set_option maxRecDepth 100000 in
theorem sup_4_n_c (h : TAt w own i b c s cl q cm o ev ce oe) (fa : Int) (n : Nat) (hn : n < c.m) (fns : Int) (fq : Option Addr) (fl fc : Nat) :
    Calls Tryz.prog 150 #[.pointer (some ⟨b, 0, none⟩), .agg #[.int .i64 fa, .int .i64 4, .bool false, .int .i64 fns, .int .i64 (n : Nat), .slice fq fl fc], .bool true] w fun e w' => TDid i b c ({ s with peer := false, vs := n }) cl own w e w' := by
  have hlt := h.lt
  have hA0 := alloc1_a w (.cells #[.int .i64 fa, .int .i64 4, .bool false, .int .i64 fns, .int .i64 (n : Nat), .slice fq fl fc] 30)
  have hbA := (Below.refl w.heap.size w).alloc (Nat.le_refl _) (.cells #[.int .i64 fa, .int .i64 4, .bool false, .int .i64 fns, .int .i64 (n : Nat), .slice fq fl fc] 30)
  go_enter Tryz.func150, Tryz.ntmps150
  go_upto_region 1 with fail
  generalize w.alloc (.cells #[.int .i64 fa, .int .i64 4, .bool false, .int .i64 fns, .int .i64 (n : Nat), .slice fq fl fc] 30) = W0 at *
  generalize hnB : w.heap.size = nB at *
  have y1 : W0.cell? ⟨nB, 1, none⟩ = some (.int .i64 4) := by rw [Lib.cell_of_heap hA0]; rfl
  have y2 : W0.cell? ⟨nB, 2, none⟩ = some (.bool false) := by rw [Lib.cell_of_heap hA0]; rfl
  have y4 : W0.cell? ⟨nB, 4, none⟩ = some (.int .i64 (n : Nat)) := by rw [Lib.cell_of_heap hA0]; rfl
  have hbA2 : Below w.heap.size w W0 := hnB ▸ hbA
  have h0 := h.later hbA2
  have c7 : W0.cell? ⟨b, 7, none⟩ = some (.int .i64 s.vs) := h0.cell 7 rfl
  have c12 : W0.cell? ⟨b, 12, none⟩ = some (.int .i64 s.timer) := h0.cell 12 rfl
  have c14 : W0.cell? ⟨b, 14, none⟩ = some (.bool s.polling) := h0.cell 14 rfl
  have c15 : W0.cell? ⟨b, 15, none⟩ = some (.bool s.peer) := h0.cell 15 rfl
  skip
  have fz := h0.fz
  have n1 : ¬ nB = b := by omega
  have n2 : ¬ b = nB := by omega
  have hK : Keeps (· = b) W0 ((W0.setCell ⟨b, 15, none⟩ (.bool false)).setCell ⟨b, 7, none⟩ (.int .i64 (n : Nat))) := (((Keeps.refl _ W0).setB 15 _).setB 7 _)
  have h2 := h0.wrote hK (((h0.hd.peer false).vs n).as { s with peer := false, vs := n } rfl) rfl rfl rfl rfl ⟨h0.sok.state, hn, h0.sok.va, h0.sok.vr, h0.sok.vm, h0.sok.q20, h0.sok.q32, h0.sok.timer, h0.sok.tries, h0.sok.came⟩
  have HU := hide (Upd.of hbA2 (h0.upd hK))
  have HR := hide (And.intro h2 (unhide HU))
  clear h h0 h2 hK hA0 hbA hbA2 HU
  go_wp2
  go_end0
  exact ⟨rfl, _, ⟨_, _, _, _, _, _, (unhide HR).1⟩, (unhide HR).2⟩
set_option maxHeartbeats 4000000 in
set_option maxRecDepth 100000 in
theorem sup_4_p_c (h : TAt w own i b c s cl q cm o ev ce oe) (fa : Int) (n : Nat) (hn : n < c.m) (fns : Int) (fq : Option Addr) (fl fc : Nat) (hl : s.out.length ≤ 2199023255552) :
    Calls Tryz.prog 150 #[.pointer (some ⟨b, 0, none⟩), .agg #[.int .i64 fa, .int .i64 4, .bool true, .int .i64 fns, .int .i64 (n : Nat), .slice fq fl fc], .bool true] w fun e w' => TDid i b c (answer c true { s with peer := false, vs := n }) cl own w e w' := by
  have hlt := h.lt
  have hA0 := alloc1_a w (.cells #[.int .i64 fa, .int .i64 4, .bool true, .int .i64 fns, .int .i64 (n : Nat), .slice fq fl fc] 30)
  have hbA := (Below.refl w.heap.size w).alloc (Nat.le_refl _) (.cells #[.int .i64 fa, .int .i64 4, .bool true, .int .i64 fns, .int .i64 (n : Nat), .slice fq fl fc] 30)
  go_enter Tryz.func150, Tryz.ntmps150
  go_upto_region 1 with fail
  generalize w.alloc (.cells #[.int .i64 fa, .int .i64 4, .bool true, .int .i64 fns, .int .i64 (n : Nat), .slice fq fl fc] 30) = W0 at *
  generalize hnB : w.heap.size = nB at *
  have y1 : W0.cell? ⟨nB, 1, none⟩ = some (.int .i64 4) := by rw [Lib.cell_of_heap hA0]; rfl
  have y2 : W0.cell? ⟨nB, 2, none⟩ = some (.bool true) := by rw [Lib.cell_of_heap hA0]; rfl
  have y4 : W0.cell? ⟨nB, 4, none⟩ = some (.int .i64 (n : Nat)) := by rw [Lib.cell_of_heap hA0]; rfl
  have hbA2 : Below w.heap.size w W0 := hnB ▸ hbA
  have h0 := h.later hbA2
  have c7 : W0.cell? ⟨b, 7, none⟩ = some (.int .i64 s.vs) := h0.cell 7 rfl
  have c12 : W0.cell? ⟨b, 12, none⟩ = some (.int .i64 s.timer) := h0.cell 12 rfl
  have c14 : W0.cell? ⟨b, 14, none⟩ = some (.bool s.polling) := h0.cell 14 rfl
  have c15 : W0.cell? ⟨b, 15, none⟩ = some (.bool s.peer) := h0.cell 15 rfl
  skip
  have fz := h0.fz
  have n1 : ¬ nB = b := by omega
  have n2 : ¬ b = nB := by omega
  have hK : Keeps (· = b) W0 ((W0.setCell ⟨b, 15, none⟩ (.bool false)).setCell ⟨b, 7, none⟩ (.int .i64 (n : Nat))) := (((Keeps.refl _ W0).setB 15 _).setB 7 _)
  have h2 := h0.wrote hK (((h0.hd.peer false).vs n).as { s with peer := false, vs := n } rfl) rfl rfl rfl rfl ⟨h0.sok.state, hn, h0.sok.va, h0.sok.vr, h0.sok.vm, h0.sok.q20, h0.sok.q32, h0.sok.timer, h0.sok.tries, h0.sok.came⟩
  have HU := hide (Upd.of hbA2 (h0.upd hK))
  have K2 := hide (status_ref h2 false true hl)
  clear h h0 h2 hK hA0 hbA hbA2
  go_wp2_with fail
  refine (unhide K2).mono ?_
  rintro e w2 ⟨rfl, own2, o2, oe2, h3, u3⟩
  have HR := hide (And.intro h3 ((unhide HU).trans u3))
  clear h3 u3 K2 HU c7 c12 c14 c15 fz y1 y2 y4
  go_wp2
  go_end0
  exact ⟨rfl, _, ⟨_, _, _, _, _, _, (unhide HR).1⟩, (unhide HR).2⟩
set_option maxHeartbeats 4000000 in
set_option maxRecDepth 100000 in
theorem sup_4_p_r_w (h : TAt w own i b c s cl q cm o ev ce oe) (fa : Int) (n : Nat) (hn : n < c.m) (fns : Int) (fq : Option Addr) (fl fc : Nat) (hpol : s.polling = true) :
    Calls Tryz.prog 150 #[.pointer (some ⟨b, 0, none⟩), .agg #[.int .i64 fa, .int .i64 4, .bool true, .int .i64 fns, .int .i64 (n : Nat), .slice fq fl fc], .bool false] w fun e w' => TDid i b c ({ s with peer := false, vs := n, polling := false, timer := 0 }) cl own w e w' := by
  have hlt := h.lt
  have hA0 := alloc1_a w (.cells #[.int .i64 fa, .int .i64 4, .bool true, .int .i64 fns, .int .i64 (n : Nat), .slice fq fl fc] 30)
  have hbA := (Below.refl w.heap.size w).alloc (Nat.le_refl _) (.cells #[.int .i64 fa, .int .i64 4, .bool true, .int .i64 fns, .int .i64 (n : Nat), .slice fq fl fc] 30)
  go_enter Tryz.func150, Tryz.ntmps150
  go_upto_region 1 with fail
  generalize w.alloc (.cells #[.int .i64 fa, .int .i64 4, .bool true, .int .i64 fns, .int .i64 (n : Nat), .slice fq fl fc] 30) = W0 at *
  generalize hnB : w.heap.size = nB at *
  have y1 : W0.cell? ⟨nB, 1, none⟩ = some (.int .i64 4) := by rw [Lib.cell_of_heap hA0]; rfl
  have y2 : W0.cell? ⟨nB, 2, none⟩ = some (.bool true) := by rw [Lib.cell_of_heap hA0]; rfl
  have y4 : W0.cell? ⟨nB, 4, none⟩ = some (.int .i64 (n : Nat)) := by rw [Lib.cell_of_heap hA0]; rfl
  have hbA2 : Below w.heap.size w W0 := hnB ▸ hbA
  have h0 := h.later hbA2
  have c7 : W0.cell? ⟨b, 7, none⟩ = some (.int .i64 s.vs) := h0.cell 7 rfl
  have c12 : W0.cell? ⟨b, 12, none⟩ = some (.int .i64 s.timer) := h0.cell 12 rfl
  have c14 : W0.cell? ⟨b, 14, none⟩ = some (.bool s.polling) := h0.cell 14 rfl
  have c15 : W0.cell? ⟨b, 15, none⟩ = some (.bool s.peer) := h0.cell 15 rfl
  rw [hpol] at c14
  have fz := h0.fz
  have n1 : ¬ nB = b := by omega
  have n2 : ¬ b = nB := by omega
  have hK : Keeps (· = b) W0 (((((W0.setCell ⟨b, 15, none⟩ (.bool false)).setCell ⟨b, 7, none⟩ (.int .i64 (n : Nat))).setCell ⟨b, 14, none⟩ (.bool false)).setCell ⟨b, 7, none⟩ (.int .i64 (n : Nat))).setCell ⟨b, 12, none⟩ (.int .i64 (0 : Nat))) := ((((((Keeps.refl _ W0).setB 15 _).setB 7 _).setB 14 _).setB 7 _).setB 12 _)
  have h2 := h0.wrote hK ((((((h0.hd.peer false).vs n).polling false).vs n).timer 0).as { s with peer := false, vs := n, polling := false, timer := 0 } rfl) rfl rfl rfl rfl ⟨h0.sok.state, hn, h0.sok.va, h0.sok.vr, h0.sok.vm, h0.sok.q20, h0.sok.q32, Nat.zero_le _, h0.sok.tries, h0.sok.came⟩
  have HU := hide (Upd.of hbA2 (h0.upd hK))
  have HR := hide (And.intro h2 (unhide HU))
  clear h h0 h2 hK hA0 hbA hbA2 HU
  go_wp2
  go_end0
  exact ⟨rfl, _, ⟨_, _, _, _, _, _, (unhide HR).1⟩, (unhide HR).2⟩
set_option maxHeartbeats 4000000 in
set_option maxRecDepth 100000 in
theorem sup_4_p_r_i (h : TAt w own i b c s cl q cm o ev ce oe) (fa : Int) (n : Nat) (hn : n < c.m) (fns : Int) (fq : Option Addr) (fl fc : Nat) (hpol : s.polling = false) :
    Calls Tryz.prog 150 #[.pointer (some ⟨b, 0, none⟩), .agg #[.int .i64 fa, .int .i64 4, .bool true, .int .i64 fns, .int .i64 (n : Nat), .slice fq fl fc], .bool false] w fun e w' => TDid i b c ({ s with peer := false, vs := n }) cl own w e w' := by
  have hlt := h.lt
  have hA0 := alloc1_a w (.cells #[.int .i64 fa, .int .i64 4, .bool true, .int .i64 fns, .int .i64 (n : Nat), .slice fq fl fc] 30)
  have hbA := (Below.refl w.heap.size w).alloc (Nat.le_refl _) (.cells #[.int .i64 fa, .int .i64 4, .bool true, .int .i64 fns, .int .i64 (n : Nat), .slice fq fl fc] 30)
  go_enter Tryz.func150, Tryz.ntmps150
  go_upto_region 1 with fail
  generalize w.alloc (.cells #[.int .i64 fa, .int .i64 4, .bool true, .int .i64 fns, .int .i64 (n : Nat), .slice fq fl fc] 30) = W0 at *
  generalize hnB : w.heap.size = nB at *
  have y1 : W0.cell? ⟨nB, 1, none⟩ = some (.int .i64 4) := by rw [Lib.cell_of_heap hA0]; rfl
  have y2 : W0.cell? ⟨nB, 2, none⟩ = some (.bool true) := by rw [Lib.cell_of_heap hA0]; rfl
  have y4 : W0.cell? ⟨nB, 4, none⟩ = some (.int .i64 (n : Nat)) := by rw [Lib.cell_of_heap hA0]; rfl
  have hbA2 : Below w.heap.size w W0 := hnB ▸ hbA
  have h0 := h.later hbA2
  have c7 : W0.cell? ⟨b, 7, none⟩ = some (.int .i64 s.vs) := h0.cell 7 rfl
  have c12 : W0.cell? ⟨b, 12, none⟩ = some (.int .i64 s.timer) := h0.cell 12 rfl
  have c14 : W0.cell? ⟨b, 14, none⟩ = some (.bool s.polling) := h0.cell 14 rfl
  have c15 : W0.cell? ⟨b, 15, none⟩ = some (.bool s.peer) := h0.cell 15 rfl
  rw [hpol] at c14
  have fz := h0.fz
  have n1 : ¬ nB = b := by omega
  have n2 : ¬ b = nB := by omega
  have hK : Keeps (· = b) W0 ((W0.setCell ⟨b, 15, none⟩ (.bool false)).setCell ⟨b, 7, none⟩ (.int .i64 (n : Nat))) := (((Keeps.refl _ W0).setB 15 _).setB 7 _)
  have h2 := h0.wrote hK (((h0.hd.peer false).vs n).as { s with peer := false, vs := n } rfl) rfl rfl rfl rfl ⟨h0.sok.state, hn, h0.sok.va, h0.sok.vr, h0.sok.vm, h0.sok.q20, h0.sok.q32, h0.sok.timer, h0.sok.tries, h0.sok.came⟩
  have HU := hide (Upd.of hbA2 (h0.upd hK))
  have HR := hide (And.intro h2 (unhide HU))
  clear h h0 h2 hK hA0 hbA hbA2 HU
  go_wp2
  go_end0
  exact ⟨rfl, _, ⟨_, _, _, _, _, _, (unhide HR).1⟩, (unhide HR).2⟩
theorem supervised_ref (h : TAt w own i b c s cl q cm o ev ce oe) (f : Fr) (cmd : Bool) (n : Nat) (hnr : f.nr = n) (hn : n < c.m) (hk : f.k = 2 ∨ f.k = 3 ∨ f.k = 4) (hcmd : isCmd c f = cmd) (fq : Option Addr) (fc : Nat) (hl : s.out.length ≤ 2199023255552) :
    Calls Tryz.prog 150 #[.pointer (some ⟨b, 0, none⟩), frV f fq fc, .bool cmd] w fun e w' => TDid i b c (hearReady c f s) cl own w e w' := by
  obtain ⟨fa, fk, fp, fns, fnr, info⟩ := f
  simp only at hnr hk
  subst hnr
  unfold frV
  simp only
  rcases hk with rfl | rfl | rfl
  · cases fp
    · cases cmd
      · have e : hearReady c ⟨fa, 2, false, fns, (n : Int), info⟩ s = { s with peer := false, vs := s.vs } := rfl
        rw [e]
        exact sup_2_n_r h fa n hn fns fq info.length fc
      · have e : hearReady c ⟨fa, 2, false, fns, (n : Int), info⟩ s = { s with peer := false, vs := s.vs } := rfl
        rw [e]
        exact sup_2_n_c h fa n hn fns fq info.length fc
    · cases cmd
      · cases hpol : s.polling
        · have e : hearReady c ⟨fa, 2, true, fns, (n : Int), info⟩ s = { s with peer := false, vs := s.vs } := by
            unfold hearReady
            simp only [hcmd]
            simp [hpol]
          rw [e]
          exact sup_2_p_r_i h fa n hn fns fq info.length fc hpol
        · have e : hearReady c ⟨fa, 2, true, fns, (n : Int), info⟩ s = { s with peer := false, vs := n, polling := false, timer := 0 } := by
            unfold hearReady
            simp only [hcmd]
            simp [hpol]
          rw [e]
          exact sup_2_p_r_w h fa n hn fns fq info.length fc hpol
      · have e : hearReady c ⟨fa, 2, true, fns, (n : Int), info⟩ s = answer c true { s with peer := false, vs := s.vs } := by
          unfold hearReady
          simp only [hcmd]
          simp
        rw [e]
        exact sup_2_p_c h fa n hn fns fq info.length fc hl
  · cases fp
    · cases cmd
      · have e : hearReady c ⟨fa, 3, false, fns, (n : Int), info⟩ s = { s with peer := true, vs := s.vs } := rfl
        rw [e]
        exact sup_3_n_r h fa n hn fns fq info.length fc
      · have e : hearReady c ⟨fa, 3, false, fns, (n : Int), info⟩ s = { s with peer := true, vs := s.vs } := rfl
        rw [e]
        exact sup_3_n_c h fa n hn fns fq info.length fc
    · cases cmd
      · cases hpol : s.polling
        · have e : hearReady c ⟨fa, 3, true, fns, (n : Int), info⟩ s = { s with peer := true, vs := s.vs } := by
            unfold hearReady
            simp only [hcmd]
            simp [hpol]
          rw [e]
          exact sup_3_p_r_i h fa n hn fns fq info.length fc hpol
        · have e : hearReady c ⟨fa, 3, true, fns, (n : Int), info⟩ s = { s with peer := true, vs := n, polling := false, timer := 0 } := by
            unfold hearReady
            simp only [hcmd]
            simp [hpol]
          rw [e]
          exact sup_3_p_r_w h fa n hn fns fq info.length fc hpol
      · have e : hearReady c ⟨fa, 3, true, fns, (n : Int), info⟩ s = answer c true { s with peer := true, vs := s.vs } := by
          unfold hearReady
          simp only [hcmd]
          simp
        rw [e]
        exact sup_3_p_c h fa n hn fns fq info.length fc hl
  · cases fp
    · cases cmd
      · have e : hearReady c ⟨fa, 4, false, fns, (n : Int), info⟩ s = { s with peer := false, vs := n } := rfl
        rw [e]
        exact sup_4_n_r h fa n hn fns fq info.length fc
      · have e : hearReady c ⟨fa, 4, false, fns, (n : Int), info⟩ s = { s with peer := false, vs := n } := rfl
        rw [e]
        exact sup_4_n_c h fa n hn fns fq info.length fc
    · cases cmd
      · cases hpol : s.polling
        · have e : hearReady c ⟨fa, 4, true, fns, (n : Int), info⟩ s = { s with peer := false, vs := n } := by
            unfold hearReady
            simp only [hcmd]
            simp [hpol]
          rw [e]
          exact sup_4_p_r_i h fa n hn fns fq info.length fc hpol
        · have e : hearReady c ⟨fa, 4, true, fns, (n : Int), info⟩ s = { s with peer := false, vs := n, polling := false, timer := 0 } := by
            unfold hearReady
            simp only [hcmd]
            simp [hpol]
          rw [e]
          exact sup_4_p_r_w h fa n hn fns fq info.length fc hpol
      · have e : hearReady c ⟨fa, 4, true, fns, (n : Int), info⟩ s = answer c true { s with peer := false, vs := n } := by
          unfold hearReady
          simp only [hcmd]
          simp
        rw [e]
        exact sup_4_p_c h fa n hn fns fq info.length fc hl
end
end Go.Proofs.YtkalonhalhdlaaaGreatDoor

/-
  A message that came to the document's station: its bytes become the station's.
-/
namespace Go.Proofs.YtkalonhalhdlaaaGreatDoor
open Go.RowKit
theorem BytesAt.keeps' {w w' : World} {own own' : Nat → Nat} {t : Nat} {x : Value} {m : Msg} {X : Nat → Prop} (h : BytesAt w own t x m) (hk : Keeps X w w') (hx : ∀ k, X k → own k ≠ t) (ho : ∀ k, k < w.heap.size → own k = t → own' k = t) : BytesAt w' own' t x m :=
  ⟨ownsRow_keepsB h.1 hk (fun k hb hX => hx k hX (h.2 k hb)), fun k hb => ho k (World.ownsRow.lt h.1 k hb).2 (h.2 k hb)⟩
theorem QRow.keeps' {w w' : World} {own own' : Nat → Nat} {t : Nat} {v : Value} {l : List Msg} {X : Nat → Prop} (h : QRow w own t v l) (hk : Keeps X w w') (hx : ∀ k, X k → own k ≠ t) (ho : ∀ k, k < w.heap.size → own k = t → own' k = t) : QRow w' own' t v l := by
  obtain ⟨p, cap, rfl, h1, h2, h3⟩ := h
  refine ⟨p, cap, rfl, h1, h2, ?_⟩
  rcases h3 with h3 | ⟨g, off, cur, rfl, hg, hc, hs, he⟩
  · exact .inl h3
  · have hlt := (Array.getElem?_eq_some_iff.1 hc).1
    refine .inr ⟨g, off, cur, rfl, ho g hlt hg, ?_, hs, fun j m hj => ?_⟩
    · rw [hk.block g hlt (fun hX => hx g hX hg)]; exact hc
    · obtain ⟨x, hx1, hx2⟩ := he j m hj
      exact ⟨x, hx1, hx2.keeps' hk hx ho⟩
section
variable {w W : World} {own : Nat → Nat} {i b : Nat} {c : Cfg} {s : St} {cl : Bool} {q cm o ev : Value} {ce oe : List Value}
def TDidT (T : Option Nat) (i b : Nat) (c : Cfg) (s' : St) (cl : Bool) (own : Nat → Nat) (w : World) (e : Ending) (w' : World) : Prop :=
  e = .returned (.tuple #[]) ∧ ∃ own', Ttn w' own' i b c s' cl ∧ UpdT T i own own' w w'
theorem TDid.t {T : Option Nat} {s' : St} {e : Ending} {w' : World} (h : TDid i b c s' cl own w e w') : TDidT T i b c s' cl own w e w' := ⟨h.1, h.2.choose, h.2.choose_spec.1, h.2.choose_spec.2.t⟩
/-- Row cm has grown by one that was nobody's, and the station's block is written. -/
theorem TAt.cameIn (h : TAt w own i b c s cl q cm o ev ce oe) {v cm' : Value} {m : Msg} {w2 w3 : World}
    (hv : w.ownsRow 0 5 1 v m.length (Lib.byteCells m)) (hfree : ∀ k, v.ownBlock = some k → own k = 0 ∧ k ≠ 0)
    (hb2 : Below w.heap.size w w2) (hg : w2.grownBy w3 cm.ownBlock) (hrow : w3.ownsRow 0 28 1 cm' (s.came.length + 1) (ce ++ [v]))
    (hob : cm'.ownBlock = cm.ownBlock ∨ ∃ k, cm'.ownBlock = some k ∧ w2.heap.size ≤ k) (hroom : s.came.length + 1 ≤ c.room) :
    TAt (w3.setCell ⟨b, 18, none⟩ cm') (ownTake own w.heap.size w3.heap.size (tg i 2) v.ownBlock) i b c { s with came := s.came ++ [m] } cl q cm' o ev (ce ++ [v]) oe ∧ UpdT v.ownBlock i own (ownTake own w.heap.size w3.heap.size (tg i 2) v.ownBlock) w (w3.setCell ⟨b, 18, none⟩ cm') := by
  have hz2 := hb2.size
  have hz3 := hg.size
  have hvlt := World.ownsRow.lt hv
  have hob' : ∀ k, cm'.ownBlock = some k → own k = tg i 2 ∨ w.heap.size ≤ k := by
    intro k hk
    rcases hob with e | ⟨k2, e, h2⟩
    · rw [e] at hk; exact .inl (h.lcm.rown k hk)
    · rw [e] at hk; simp at hk; omega
  have hK2 : Keeps (fun k => some k = cm.ownBlock) w w3 := (Keeps.of hb2).trans (Keeps.grown hg)
  have hro : ∀ k, some k = cm.ownBlock → own k = tg i 2 := fun k hk => h.lcm.rown k hk.symm
  have hold : ∀ k, k < w.heap.size → own k ≠ 0 → ownTake own w.heap.size w3.heap.size (tg i 2) v.ownBlock k = own k := fun k hk h0 => by
    unfold ownTake
    rw [if_neg (fun e => h0 (hfree k e.symm).1)]
    exact ownNew_old hk
  have hold0 : ownTake own w.heap.size w3.heap.size (tg i 2) v.ownBlock 0 = 0 := by
    unfold ownTake
    rw [if_neg (fun e => (hfree 0 e.symm).2 rfl), ownNew_old h.pos]
    exact h.own0
  have hbr : ¬ some b = cm.ownBlock := fun e => by have := hro b e; rw [h.ownb] at this; exact tg_ne (by omega) (by omega) (.inr (by omega)) this
  have hlt := h.lt
  have hhead3 : w3.heap[b]? = some (.cells (ttCells c s cl q cm o ev) 137 (0, 0)) := by rw [hK2.block b hlt hbr]; exact h.head
  have hKb : Keeps (· = b) w3 (w3.setCell ⟨b, 18, none⟩ cm') := (Keeps.refl _ w3).setB _ _
  have hK : Keeps (fun k => some k = cm.ownBlock ∨ k = b) w (w3.setCell ⟨b, 18, none⟩ cm') := (hK2.mono (fun _ h => .inl h)).trans (hKb.mono (fun _ h => .inr h))
  have hne : ∀ p, p < 5 → p ≠ 0 → p ≠ 2 → ∀ k, (some k = cm.ownBlock ∨ k = b) → own k ≠ tg i p := by
    intro p hp h0 h3 k hk
    rcases hk with hk | hk
    · rw [hro k hk]; exact tg_ne (by omega) hp (.inr (by omega))
    · rw [hk, h.ownb]; exact tg_ne (by omega) hp (.inr (by omega))
  -- lists of other parts
  have hlst : ∀ p, p < 5 → p ≠ 0 → p ≠ 2 → ∀ v' es l, Lst w own (tg i p) v' es l → Lst (w3.setCell ⟨b, 18, none⟩ cm') (ownTake own w.heap.size w3.heap.size (tg i 2) v.ownBlock) (tg i p) v' es l := by
    intro p hp h0 h2 v' es l hL
    have hkk := hL.keeps (own' := own) hK (hne p hp h0 h2) (fun _ _ => rfl)
    refine ⟨hkk.row, fun k hk => ?_, fun j x mm h1 h2 => ⟨(hkk.each j x mm h1 h2).1, fun k hk => ?_⟩, hL.apart⟩
    · rw [hold k (World.ownsRow.lt hL.row k hk).2 (by rw [hL.rown k hk]; exact tg_pos _ _)]; exact hL.rown k hk
    · have hx := hL.each j x mm h1 h2
      rw [hold k (World.ownsRow.lt hx.1 k hk).2 (by rw [hx.2 k hk]; exact tg_pos _ _)]; exact hx.2 k hk
  refine ⟨⟨?_, (hold b hlt (by rw [h.ownb]; exact tg_pos _ _)).trans h.ownb, h.lq.keeps' hK (hne 1 (by omega) (by omega) (by omega)) (fun k hk e => (hold k hk (by rw [e]; exact tg_pos _ _)).trans e), ?_, hlst 3 (by omega) (by omega) (by omega) _ _ _ h.lo, ?_, ?_, hold0, ?_, h.cok, ⟨h.sok.state, h.sok.vs, h.sok.va, h.sok.vr, h.sok.vm, h.sok.q20, h.sok.q32, h.sok.timer, h.sok.tries, by show (s.came ++ [m]).length ≤ c.room; rw [List.length_append]; exact hroom⟩⟩, ⟨?_, ?_⟩⟩
  · exact block_set hhead3 cm'
  · refine ⟨?_, ?_, ?_, h.lcm.snoc (fun k hk e => by rw [(hfree k hk).1] at e; exact tg_pos _ _ e.symm)⟩
    · have : (s.came ++ [m]).length = s.came.length + 1 := by simp
      rw [this]
      refine ownsRow_keepsB hrow hKb (fun k hk e => ?_)
      rcases hob' k hk with h1 | h1
      · rw [e, h.ownb] at h1; exact tg_ne (by omega) (by omega) (.inr (by omega)) h1
      · omega
    · intro k hk
      by_cases hT : some k = v.ownBlock
      · simp [ownTake, hT]
      · unfold ownTake
        rw [if_neg hT]
        rcases hob with e | ⟨k2, e, h2⟩
        · rw [e] at hk
          rw [ownNew_old (World.ownsRow.lt h.lcm.row k hk).2]
          exact h.lcm.rown k hk
        · rw [e] at hk
          simp at hk
          have h4 := (World.ownsRow.lt hrow k2 e).2
          exact ownNew_new (by omega) (by omega)
    · intro j x mm h1 h2
      have hl := h.lcm.len
      by_cases hj : j < ce.length
      · rw [List.getElem?_append_left hj] at h1
        rw [List.getElem?_append_left (by omega)] at h2
        have hx := h.lcm.each j x mm h1 h2
        refine ⟨ownsRow_keepsB hx.1 hK (fun k hk hX => ?_), fun k hk => ?_⟩
        · rcases hX with hX | hX
          · obtain ⟨c1, e1⟩ := ownsRow_isRow h.lcm.row hX.symm
            obtain ⟨c2, e2⟩ := ownsRow_isRow hx.1 hk
            rw [e1] at e2
            simp at e2
          · have := hx.2 k hk
            rw [hX, h.ownb] at this
            exact tg_ne (by omega) (by omega) (.inr (by omega)) this
        · rw [hold k (World.ownsRow.lt hx.1 k hk).2 (by rw [hx.2 k hk]; exact tg_pos _ _)]; exact hx.2 k hk
      · rw [List.getElem?_append_right (by omega)] at h1
        rw [List.getElem?_append_right (by omega)] at h2
        rw [hl] at h1
        obtain ⟨jj, hjj⟩ : ∃ jj, j - s.came.length = jj := ⟨_, rfl⟩
        rw [hjj] at h1 h2
        rcases jj with _ | jj
        · simp at h1 h2
          subst h1 h2
          refine ⟨ownsRow_keepsB hv hK (fun k hk hX => ?_), fun k hk => by simp [ownTake, hk]⟩
          have h0 := (hfree k hk).1
          rcases hX with hX | hX
          · rw [hro k hX] at h0; exact tg_pos _ _ h0
          · rw [hX, h.ownb] at h0; exact tg_pos _ _ h0
        · simp at h1
  · exact ownsRow_keepsB h.lev hK (fun k hk hX => hne 4 (by omega) (by omega) (by omega) k hX (h.owne k hk))
  · exact fun k hk => (hold k (World.ownsRow.lt h.lev k hk).2 (by rw [h.owne k hk]; exact tg_pos _ _)).trans (h.owne k hk)
  · intro k hk
    rw [size_setCell] at hk
    unfold ownTake
    rw [if_neg (fun e => by have := (hvlt k e.symm).2; omega)]
    exact ownNew_0 (by omega) hk
  · exact hK.mono (fun k hk => by rcases hk with hk | hk; exact .inl ⟨2, by omega, hro k hk⟩; exact .inl ⟨0, by omega, by rw [hk]; exact h.ownb⟩)
  · intro k hk hT
    unfold ownTake
    rw [if_neg hT]
    exact ownNew_old hk
end
end Go.Proofs.YtkalonhalhdlaaaGreatDoor

/-
  What is asked ahead of any script: the document's examples, as they lie in memory.
-/
namespace Go.Proofs.YtkalonhalhdlaaaGreatDoor
open Go.RowKit
theorem conv_same (w : World) (o1 o2 o3 o4 : Obj) : (convert 28 28 (.slice (some ⟨w.heap.size + 1 + 1 + 1 + 1, 0, none⟩) 1 1)).run Tryz.prog (((((w.alloc o1).alloc o2).alloc o3).alloc o4).alloc (.cells #[.int .u8 97] 5)) = .ok (.slice (some ⟨w.heap.size + 1 + 1 + 1 + 1, 0, none⟩) 1 1) (((((w.alloc o1).alloc o2).alloc o3).alloc o4).alloc (.cells #[.int .u8 97] 5 (1, 2))) := by
  have h := Lib.run_convert_bytes_const (P := Tryz.prog) ((((w.alloc o1).alloc o2).alloc o3).alloc o4) 28 5 #[.int .u8 97] 1 1 Tryz.underlying28 Tryz.underlying5
  simp only [alloc1_s] at h
  exact h
/-- A step of noughts. -/
def opZ : OpV := ⟨0, 0, 0, 0, ⟨#[]⟩, .slice none 0 0, ⟨0, 0, false, 0, 0, []⟩, none, 0, 0, 0, 0, 0, 0, 0⟩
/-- The document's examples as steps; the lists that they name lie in three blocks. -/
def firstOps (g2 g3 g4 : Nat) : List OpV := [
  { opZ with kind := 1, s := ⟨#[49, 50, 51, 52, 53, 54, 55, 56, 57]⟩ },
  { opZ with kind := 2, lv := .slice (some ⟨g2, 0, none⟩) 1 1 },
  { opZ with kind := 3 },
  { opZ with kind := 5, lv := .slice (some ⟨g3, 0, none⟩) 2 2 },
  { opZ with kind := 10, a := 8, f := ⟨3, 1, true, 5, 2, [97]⟩, fq := some ⟨g4, 0, none⟩, fc := 1 },
  { opZ with kind := 11, a := 8, s := ⟨#[3, 63]⟩ },
  { opZ with kind := 20, c0 := 8, c1 := 2, c2 := 5, c3 := 3, c4 := 4, c5 := 3 },
  { opZ with kind := 20, c0 := 8, c1 := 2, c2 := 5, c3 := 3, c4 := 4, c5 := 1 },
  { opZ with kind := 21 },
  { opZ with kind := 30, b := 1 },
  { opZ with kind := 30, a := 1 },
  { opZ with kind := 23, s := ⟨#[97]⟩ },
  { opZ with kind := 23, s := ⟨#[98]⟩ },
  { opZ with kind := 23, s := ⟨#[99]⟩ },
  { opZ with kind := 32 },
  { opZ with kind := 30, b := 1, d := 1 },
  { opZ with kind := 30, a := 1 },
  { opZ with kind := 30, b := 1 },
  { opZ with kind := 25, a := 1 },
  { opZ with kind := 31, a := 1 },
  { opZ with kind := 28 }]
def opsCells (os : List OpV) : List Value := (os.map opCells).flatten
theorem infoOp : (Tryz.prog.info? 34).map (fun i => (i.zero, i.size, i.bytes)) = some (some (.agg #[.int .i64 0, .int .i64 0, .int .i64 0, .int .i64 0, .string ⟨#[]⟩, .slice none 0 0, .int .i64 0, .int .i64 0, .bool false, .int .i64 0, .int .i64 0, .slice none 0 0, .int .i64 0, .int .i64 0, .int .i64 0, .int .i64 0, .int .i64 0, .int .i64 0]), 18, 184) := by kernel_rfl
theorem first_fill (g2 g3 g4 : Nat) : Instr.fill (fun i => some (i * 18, 18)) ((Array.range (21 * 18)).map ((Value.cells (.agg #[.int .i64 0, .int .i64 0, .int .i64 0, .int .i64 0, .string ⟨#[]⟩, .slice none 0 0, .int .i64 0, .int .i64 0, .bool false, .int .i64 0, .int .i64 0, .slice none 0 0, .int .i64 0, .int .i64 0, .int .i64 0, .int .i64 0, .int .i64 0, .int .i64 0]))[· % (Value.cells (.agg #[.int .i64 0, .int .i64 0, .int .i64 0, .int .i64 0, .string ⟨#[]⟩, .slice none 0 0, .int .i64 0, .int .i64 0, .bool false, .int .i64 0, .int .i64 0, .slice none 0 0, .int .i64 0, .int .i64 0, .int .i64 0, .int .i64 0, .int .i64 0, .int .i64 0])).size]!)) (((firstOps g2 g3 g4).map opV).zipIdx.map (fun x => (x.2, x.1))) = some (opsCells (firstOps g2 g3 g4)).toArray := by
  kernel_rfl
/-- A list of steps in memory. -/
def OpsAt (w : World) (g : Nat) (os : List OpV) : Prop := ∀ j v, (opsCells os)[j]? = some v → w.cell? ⟨g, j, none⟩ = some v
end Go.Proofs.YtkalonhalhdlaaaGreatDoor
