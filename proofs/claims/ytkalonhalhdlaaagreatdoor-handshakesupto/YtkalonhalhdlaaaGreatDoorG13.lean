import Derived.Test.YtkalonhalhdlaaaGreatDoorG12
import Derived.Test.YtkalonhalhdlaaaGreatDoorG03
import Derived.Test.YtkalonhalhdlaaaGreatDoorG01
import Derived.Test.YtkalonhalhdlaaaGreatDoorG05
import Derived.Test.YtkalonhalhdlaaaGreatDoorG02
import Derived.Maps.AppendAt
import Derived.Test.YtkalonhalhdlaaaGreatDoorG08
import Derived.Test.YtkalonhalhdlaaaGreatDoorProg
import Derived.Test.YtkalonhalhdlaaaGreatDoorG04
import Derived.WalkKit
import Derived.BigCall
import Derived.Shelf.Strings.BuilderF
import Derived.Lib.FrozenHead2
import Derived.Lib.OthersKept
/-
  What becomes, asks, status and refuses of the document's station do.
-/
namespace Go.Proofs.YtkalonhalhdlaaaGreatDoor
open Go.RowKit
section
variable {w W : World} {own : Nat → Nat} {i b : Nat} {c : Cfg} {s : St} {cl : Bool} {q cm o ev : Value} {ce oe : List Value}
set_option maxHeartbeats 4000000 in
set_option maxRecDepth 100000 in
theorem becomes_ref (h : TAt w own i b c s cl q cm o ev ce oe) (k n : Nat) (hk : k ≤ 4) (hl : s.events.length ≤ 2199023255552) :
    Calls Tryz.prog 102 #[.pointer (some ⟨b, 0, none⟩), .int .i64 k, .int .i64 n] w fun e w' => TDid i b c (tell n { over s with state := k }) cl own w e w' := by
  have K1 := hide (over_ref h)
  have hlt := h.lt
  have HFIT := hide h.sok
  clear h
  go_enter Tryz.func102, Tryz.ntmps102
  go_wp2_with fail
  refine (unhide K1).mono ?_
  rintro e w1 ⟨rfl, h1, u1⟩
  clear K1
  have c6 : w1.cell? ⟨b, 6, none⟩ = some (.int .i64 s.state) := h1.cell 6 rfl
  have fz := h1.fz
  have hK : Keeps (· = b) w1 (w1.setCell ⟨b, 6, none⟩ (.int .i64 k)) := (Keeps.refl _ w1).setB 6 _
  have h2 : TAt (w1.setCell ⟨b, 6, none⟩ (.int .i64 k)) own i b c { over s with state := k } cl (.slice none 0 0) cm o ev ce oe := h1.wroteL hK (h1.hd.state k) (QRow.nil _ _ _) Stays.same Stays.same (.inl ⟨rfl, rfl⟩) (over_fit h1.cok (unhide HFIT) k hk 0 0 (Nat.zero_le _) (Nat.zero_le _))
  have u2 : Upd i own own w (w1.setCell ⟨b, 6, none⟩ (.int .i64 k)) := u1.trans (h1.upd hK)
  have K2 := hide (event_ref h2 n hl)
  have U2 := hide u2
  clear h1 h2 hK u1 u2
  go_wp2_with fail
  refine (unhide K2).mono ?_
  rintro e w2 ⟨rfl, own', h3, u3⟩
  have HR := hide (And.intro h3 ((unhide U2).trans u3))
  clear K2 h3 u3 U2 c6 fz
  go_wp2
  go_end0
  exact ⟨rfl, own', (unhide HR).1, (unhide HR).2⟩
theorem srcE_nil (w : World) : SrcE w none [] := .inl ⟨rfl, rfl⟩
set_option maxHeartbeats 4000000 in
set_option maxRecDepth 100000 in
theorem asks_ref (h : TAt w own i b c s cl q cm o ev ce oe) (k n : Nat) (hk : k ≤ 4) (hl : s.out.length ≤ 2199023255552) :
    Calls Tryz.prog 96 #[.pointer (some ⟨b, 0, none⟩), .int .i64 k, .int .i64 n] w fun e w' => TDid i b c (ask c k n s) cl own w e w' := by
  have K1 := hide (over_ref h)
  have hlt := h.lt
  have HFIT := hide h.sok
  clear h
  go_enter Tryz.func96, Tryz.ntmps96
  go_wp2_with fail
  refine (unhide K1).mono ?_
  rintro e w1 ⟨rfl, h1, u1⟩
  clear K1
  have c2 : w1.cell? ⟨b, 2, none⟩ = some (.int .i64 c.tim) := h1.cell 2 rfl
  have c6 : w1.cell? ⟨b, 6, none⟩ = some (.int .i64 s.state) := h1.cell 6 rfl
  have c12 : w1.cell? ⟨b, 12, none⟩ = some (.int .i64 (0 : Nat)) := h1.cell 12 rfl
  have c13 : w1.cell? ⟨b, 13, none⟩ = some (.int .i64 (0 : Nat)) := h1.cell 13 rfl
  have fz := h1.fz
  have hK : Keeps (· = b) w1 (((w1.setCell ⟨b, 6, none⟩ (.int .i64 k)).setCell ⟨b, 13, none⟩ (.int .i64 1)).setCell ⟨b, 12, none⟩ (.int .i64 c.tim)) := (((Keeps.refl _ w1).setB 6 _).setB 13 _).setB 12 _
  have h2 : TAt (((w1.setCell ⟨b, 6, none⟩ (.int .i64 k)).setCell ⟨b, 13, none⟩ (.int .i64 1)).setCell ⟨b, 12, none⟩ (.int .i64 c.tim)) own i b c { over s with state := k, tries := 1, timer := c.tim } cl (.slice none 0 0) cm o ev ce oe := h1.wroteL hK ((((h1.hd.state k).tries 1).timer c.tim).as _ rfl) (QRow.nil _ _ _) Stays.same Stays.same (.inl ⟨rfl, rfl⟩) (over_fit h1.cok (unhide HFIT) k hk c.tim 1 (Nat.le_refl _) h1.cok.tri1)
  have u2 : Upd i own own w (((w1.setCell ⟨b, 6, none⟩ (.int .i64 k)).setCell ⟨b, 13, none⟩ (.int .i64 1)).setCell ⟨b, 12, none⟩ (.int .i64 c.tim)) := u1.trans (h1.upd hK)
  have k2 := puts_ref h2 true ⟨0, n, true, 0, 0, []⟩ none 0 (srcE_nil _) hl
  unfold frV at k2
  have K2 := hide k2
  have U2 := hide u2
  clear h1 h2 hK u1 u2 k2
  go_wp2_with fail
  refine (unhide K2).mono ?_
  rintro e w2 ⟨rfl, own', o', oe', h3, u3⟩
  have HR := hide (And.intro h3 ((unhide U2).trans u3))
  clear K2 h3 u3 U2 c2 c6 c12 c13 fz
  go_wp2
  go_end0
  exact ⟨rfl, own', ⟨_, _, _, _, _, _, (unhide HR).1⟩, (unhide HR).2⟩
set_option maxHeartbeats 4000000 in
set_option maxRecDepth 100000 in
theorem status_ref (h : TAt w own i b c s cl q cm o ev ce oe) (cmd poll : Bool) (hl : s.out.length ≤ 2199023255552) :
    Calls Tryz.prog 92 #[.pointer (some ⟨b, 0, none⟩), .bool cmd, .bool poll] w fun e w' => e = .returned (.tuple #[]) ∧ ∃ own' o' oe', TAt w' own' i b c (putX c cmd ⟨0, ready c s, poll, 0, s.vr, []⟩ s) cl q cm o' ev ce oe' ∧ Upd i own own' w w' := by
  have K1 := hide (heldUp_ref h)
  have hlt := h.lt
  have K2 := hide (fun N => puts_ref (h.drewN N) cmd ⟨0, ready c s, poll, 0, s.vr, []⟩ none 0 (srcE_nil _) hl)
  have c9 : ∀ N, (w.drewN N).cell? ⟨b, 9, none⟩ = some (.int .i64 s.vr) := fun N => (h.drewN N).cell 9 rfl
  have hrd : ready c s = if heldUp c s then 3 else 2 := rfl
  rw [hrd] at K2 ⊢
  have U : Hid (∀ N, Upd i own own w (w.drewN N)) := hide (fun N => ⟨(Keeps.refl _ w).drewN N, fun _ _ => rfl⟩)
  clear h hrd
  unfold frV at K2
  generalize heldUp c s = hd at *
  cases hd
  all_goals
    go_enter Tryz.func92, Tryz.ntmps92
    go_wp2_with fail
    refine (unhide K1).mono ?_
    rintro e w1 ⟨rfl, N, rfl⟩
    have c9' := c9 N
    have K3 := hide (unhide K2 N)
    clear K1 K2
    go_wp2_with fail
    refine (unhide K3).mono ?_
    rintro e w2 ⟨rfl, own', o', oe', h3, u3⟩
    have HR := hide (And.intro h3 ((unhide U N).trans u3))
    clear K3 h3 u3 U c9 c9'
    go_wp2
    go_end0
    first | exact ⟨rfl, own', o', oe', (unhide HR).1, (unhide HR).2⟩ | exact ⟨rfl, own', ⟨o', oe', (unhide HR).1⟩, (unhide HR).2⟩
end
end Go.Proofs.YtkalonhalhdlaaaGreatDoor

/-
  What refuses, down, calling, leaving and broken of the document's station do.
-/
namespace Go.Proofs.YtkalonhalhdlaaaGreatDoor
open Go.RowKit
section
variable {w : World} {own : Nat → Nat} {i b : Nat} {c : Cfg} {s : St} {cl : Bool} {q cm o ev : Value} {ce oe : List Value}
set_option maxHeartbeats 4000000 in
set_option maxRecDepth 100000 in
theorem refuses_ref (h : TAt w own i b c s cl q cm o ev ce oe) (p : Bool) (hl : s.out.length ≤ 2199023255552) :
    Calls Tryz.prog 148 #[.pointer (some ⟨b, 0, none⟩), .bool p] w fun e w' => e = .returned (.tuple #[]) ∧ ∃ own' o' oe', TAt w' own' i b c (report c p s) cl q cm o' ev ce oe' ∧ Upd i own own' w w' := by
  have hlt := h.lt
  have c0 : w.cell? ⟨b, 0, none⟩ = some (.int .i64 c.m) := h.cell 0 rfl
  have hm := h.cok.m
  obtain ⟨n, hn, hn5⟩ : ∃ n : Nat, repN c.m = n ∧ ((c.m = 8 ∧ n = 3) ∨ (c.m = 128 ∧ n = 5)) := by
    rcases hm with e | e
    · exact ⟨3, by rw [e]; rfl, .inl ⟨e, rfl⟩⟩
    · exact ⟨5, by rw [e]; rfl, .inr ⟨e, rfl⟩⟩
  have hpost : report c p s = putX c false ⟨0, 9, p, 0, 0, List.replicate n 0⟩ s := by unfold report; rw [hn]; rfl
  have hbl : Below w.heap.size w (w.alloc (.cells (Lib.byteCells (List.replicate n 0)).toArray 5)) := (Below.refl _ w).alloc (Nat.le_refl _) _
  have k2 := puts_ref (h.later hbl) false ⟨0, 9, p, 0, 0, List.replicate n 0⟩ (some ⟨w.heap.size, 0, none⟩) n (src_zero n w).e hl
  rw [frV_zero] at k2
  have H2 := hide k2
  have hmk := make_rowS n (by omega) w
  rw [hpost]
  generalize hz : (Lib.byteCells (List.replicate n 0)).toArray = zs at H2 hmk hbl
  have HB := hide hbl
  clear h k2 hpost hn hz hbl hm
  rcases hn5 with ⟨e, rfl⟩ | ⟨e, rfl⟩
  all_goals
    rw [e] at c0
    first | rw [show ((3 : Nat) : Int) = 3 from rfl] at hmk | rw [show ((5 : Nat) : Int) = 5 from rfl] at hmk
    clear e
    go_enter Tryz.func148, Tryz.ntmps148
    go_wp2_with fail
    refine (unhide H2).mono ?_
    rintro e w2 ⟨rfl, own2, o2, oe2, h3, u3⟩
    have HR := hide (And.intro h3 (Upd.of (unhide HB) u3))
    clear h3 u3 H2 HB hmk
    go_wp2
    go_end0
    exact ⟨rfl, _, _, _, (unhide HR).1, (unhide HR).2⟩
set_option maxHeartbeats 4000000 in
set_option maxRecDepth 100000 in
theorem down_5 (h : TAt w own i b c s cl q cm o ev ce oe) (fa : Int) (fp : Bool) (cm0 : Bool) (fns fnr : Int) (fq : Option Addr) (fl fc : Nat) (hl : s.out.length ≤ 2199023255552) (hl2 : s.events.length ≤ 2199023255552) :
    Calls Tryz.prog 122 #[.pointer (some ⟨b, 0, none⟩), .agg #[.int .i64 fa, .int .i64 5, .bool fp, .int .i64 fns, .int .i64 fnr, .slice fq fl fc], .bool cm0] w fun e w' => TDid i b c (accept c fp 1 s) cl own w e w' := by
  have hlt := h.lt
  have hn0 := h.new0 w.heap.size (Nat.le_refl _)
  have k1 := fun V (hV : Below w.heap.size w V) => becomes_ref (h.later hV) 2 1 (by omega) hl2
  skip
  have K1 := hide k1
  clear h k1
  go_enter Tryz.func122, Tryz.ntmps122
  go_wp2_with fail
  refine (unhide K1 _ ?_).mono ?_
  · exact (Below.refl _ w).alloc (Nat.le_refl _) _
  rintro e w1 ⟨rfl, own1, ⟨q1, cm1, o1, ev1, ce1, oe1, h1⟩, u1⟩
  have HU1 := hide (u1.of ((Below.refl _ w).alloc (Nat.le_refl _) _))
  obtain ⟨y0, y1, y2, y3, y4, y5⟩ := frBox (box_kept u1 hn0)
  have k2 := puts_ref h1 false ⟨0, 7, fp, 0, 0, []⟩ none 0 (srcE_nil _) hl
  unfold frV at k2
  have K2 := hide k2
  clear h1 u1 K1 k2
  go_wp2_with fail
  refine (unhide K2).mono ?_
  rintro e w2 ⟨rfl, own2, o2, oe2, h2, u2⟩
  have HR := hide (And.intro h2 ((unhide HU1).trans u2))
  clear h2 u2 K2 HU1 y0 y1 y2 y3 y4 y5
  go_wp2
  go_end0
  exact ⟨rfl, _, ⟨_, _, _, _, _, _, (unhide HR).1⟩, (unhide HR).2⟩
set_option maxHeartbeats 4000000 in
set_option maxRecDepth 100000 in
theorem down_6 (h : TAt w own i b c s cl q cm o ev ce oe) (fa : Int) (fp : Bool) (cm0 : Bool) (fns fnr : Int) (fq : Option Addr) (fl fc : Nat) (hl : s.out.length ≤ 2199023255552) :
    Calls Tryz.prog 122 #[.pointer (some ⟨b, 0, none⟩), .agg #[.int .i64 fa, .int .i64 6, .bool fp, .int .i64 fns, .int .i64 fnr, .slice fq fl fc], .bool cm0] w fun e w' => TDid i b c (respond c 8 fp s) cl own w e w' := by
  have hlt := h.lt
  have hn0 := h.new0 w.heap.size (Nat.le_refl _)
  have k1 := fun V (hV : Below w.heap.size w V) => puts_ref (h.later hV) false ⟨0, 8, fp, 0, 0, []⟩ none 0 (srcE_nil _) hl
  unfold frV at k1
  have K1 := hide k1
  clear h k1
  go_enter Tryz.func122, Tryz.ntmps122
  go_wp2_with fail
  refine (unhide K1 _ ?_).mono ?_
  · exact (Below.refl _ w).alloc (Nat.le_refl _) _
  rintro e w1 ⟨rfl, own1, o1, oe1, h1, u1⟩
  have HU1 := hide (u1.of ((Below.refl _ w).alloc (Nat.le_refl _) _))
  have HR := hide (And.intro h1 (unhide HU1))
  clear h1 u1 K1 HU1
  go_wp2
  go_end0
  exact ⟨rfl, _, ⟨_, _, _, _, _, _, (unhide HR).1⟩, (unhide HR).2⟩
set_option maxHeartbeats 4000000 in
set_option maxRecDepth 100000 in
theorem down_dm (h : TAt w own i b c s cl q cm o ev ce oe) (fa : Int) (fk : Int) (fns fnr : Int) (fq : Option Addr) (fl fc : Nat) (n5 : (fk == 5) = false) (n6 : (fk == 6) = false) (hl : s.out.length ≤ 2199023255552) :
    Calls Tryz.prog 122 #[.pointer (some ⟨b, 0, none⟩), .agg #[.int .i64 fa, .int .i64 fk, .bool true, .int .i64 fns, .int .i64 fnr, .slice fq fl fc], .bool true] w fun e w' => TDid i b c (respond c 8 true s) cl own w e w' := by
  have hlt := h.lt
  have hn0 := h.new0 w.heap.size (Nat.le_refl _)
  have k1 := fun V (hV : Below w.heap.size w V) => puts_ref (h.later hV) false ⟨0, 8, true, 0, 0, []⟩ none 0 (srcE_nil _) hl
  unfold frV at k1
  have K1 := hide k1
  clear h k1
  go_enter Tryz.func122, Tryz.ntmps122
  go_wp2_with fail
  refine (unhide K1 _ ?_).mono ?_
  · exact (Below.refl _ w).alloc (Nat.le_refl _) _
  rintro e w1 ⟨rfl, own1, o1, oe1, h1, u1⟩
  have HU1 := hide (u1.of ((Below.refl _ w).alloc (Nat.le_refl _) _))
  have HR := hide (And.intro h1 (unhide HU1))
  clear h1 u1 K1 HU1
  go_wp2
  go_end0
  exact ⟨rfl, _, ⟨_, _, _, _, _, _, (unhide HR).1⟩, (unhide HR).2⟩
set_option maxHeartbeats 4000000 in
set_option maxRecDepth 100000 in
theorem down_no (h : TAt w own i b c s cl q cm o ev ce oe) (fa : Int) (fk : Int) (fp : Bool) (fns fnr : Int) (fq : Option Addr) (fl fc : Nat) (n5 : (fk == 5) = false) (n6 : (fk == 6) = false) :
    Calls Tryz.prog 122 #[.pointer (some ⟨b, 0, none⟩), .agg #[.int .i64 fa, .int .i64 fk, .bool fp, .int .i64 fns, .int .i64 fnr, .slice fq fl fc], .bool false] w fun e w' => TDid i b c (s) cl own w e w' := by
  have hlt := h.lt
  have hn0 := h.new0 w.heap.size (Nat.le_refl _)
  have HZ : Hid (∀ V, Below w.heap.size w V → TDid i b c (s) cl own w (.returned (.tuple #[])) V) := fun V hV => ⟨rfl, own, ⟨_, _, _, _, _, _, h.later hV⟩, Upd.of hV (Upd.refl _ _ _)⟩
  clear h
  go_enter Tryz.func122, Tryz.ntmps122
  go_wp2
  go_end0
  exact unhide HZ _ ((Below.refl _ w).alloc (Nat.le_refl _) _)
set_option maxHeartbeats 4000000 in
set_option maxRecDepth 100000 in
theorem down_np (h : TAt w own i b c s cl q cm o ev ce oe) (fa : Int) (fk : Int) (fns fnr : Int) (fq : Option Addr) (fl fc : Nat) (n5 : (fk == 5) = false) (n6 : (fk == 6) = false) :
    Calls Tryz.prog 122 #[.pointer (some ⟨b, 0, none⟩), .agg #[.int .i64 fa, .int .i64 fk, .bool false, .int .i64 fns, .int .i64 fnr, .slice fq fl fc], .bool true] w fun e w' => TDid i b c (s) cl own w e w' := by
  have hlt := h.lt
  have hn0 := h.new0 w.heap.size (Nat.le_refl _)
  have HZ : Hid (∀ V, Below w.heap.size w V → TDid i b c (s) cl own w (.returned (.tuple #[])) V) := fun V hV => ⟨rfl, own, ⟨_, _, _, _, _, _, h.later hV⟩, Upd.of hV (Upd.refl _ _ _)⟩
  clear h
  go_enter Tryz.func122, Tryz.ntmps122
  go_wp2
  go_end0
  exact unhide HZ _ ((Below.refl _ w).alloc (Nat.le_refl _) _)
set_option maxHeartbeats 4000000 in
set_option maxRecDepth 100000 in
theorem calling_5 (h : TAt w own i b c s cl q cm o ev ce oe) (fa : Int) (fp : Bool) (fns fnr : Int) (fq : Option Addr) (fl fc : Nat) (hl : s.out.length ≤ 2199023255552) :
    Calls Tryz.prog 123 #[.pointer (some ⟨b, 0, none⟩), .agg #[.int .i64 fa, .int .i64 5, .bool fp, .int .i64 fns, .int .i64 fnr, .slice fq fl fc]] w fun e w' => TDid i b c (respond c 7 fp s) cl own w e w' := by
  have hlt := h.lt
  have hn0 := h.new0 w.heap.size (Nat.le_refl _)
  have k1 := fun V (hV : Below w.heap.size w V) => puts_ref (h.later hV) false ⟨0, 7, fp, 0, 0, []⟩ none 0 (srcE_nil _) hl
  unfold frV at k1
  have K1 := hide k1
  clear h k1
  go_enter Tryz.func123, Tryz.ntmps123
  go_wp2_with fail
  refine (unhide K1 _ ?_).mono ?_
  · exact (Below.refl _ w).alloc (Nat.le_refl _) _
  rintro e w1 ⟨rfl, own1, o1, oe1, h1, u1⟩
  have HU1 := hide (u1.of ((Below.refl _ w).alloc (Nat.le_refl _) _))
  have HR := hide (And.intro h1 (unhide HU1))
  clear h1 u1 K1 HU1
  go_wp2
  go_end0
  exact ⟨rfl, _, ⟨_, _, _, _, _, _, (unhide HR).1⟩, (unhide HR).2⟩
set_option maxHeartbeats 4000000 in
set_option maxRecDepth 100000 in
theorem calling_6 (h : TAt w own i b c s cl q cm o ev ce oe) (fa : Int) (fp : Bool) (fns fnr : Int) (fq : Option Addr) (fl fc : Nat) (hl : s.out.length ≤ 2199023255552) :
    Calls Tryz.prog 123 #[.pointer (some ⟨b, 0, none⟩), .agg #[.int .i64 fa, .int .i64 6, .bool fp, .int .i64 fns, .int .i64 fnr, .slice fq fl fc]] w fun e w' => TDid i b c (respond c 8 fp s) cl own w e w' := by
  have hlt := h.lt
  have hn0 := h.new0 w.heap.size (Nat.le_refl _)
  have k1 := fun V (hV : Below w.heap.size w V) => puts_ref (h.later hV) false ⟨0, 8, fp, 0, 0, []⟩ none 0 (srcE_nil _) hl
  unfold frV at k1
  have K1 := hide k1
  clear h k1
  go_enter Tryz.func123, Tryz.ntmps123
  go_wp2_with fail
  refine (unhide K1 _ ?_).mono ?_
  · exact (Below.refl _ w).alloc (Nat.le_refl _) _
  rintro e w1 ⟨rfl, own1, o1, oe1, h1, u1⟩
  have HU1 := hide (u1.of ((Below.refl _ w).alloc (Nat.le_refl _) _))
  have HR := hide (And.intro h1 (unhide HU1))
  clear h1 u1 K1 HU1
  go_wp2
  go_end0
  exact ⟨rfl, _, ⟨_, _, _, _, _, _, (unhide HR).1⟩, (unhide HR).2⟩
set_option maxHeartbeats 4000000 in
set_option maxRecDepth 100000 in
theorem calling_7 (h : TAt w own i b c s cl q cm o ev ce oe) (fa : Int) (fns fnr : Int) (fq : Option Addr) (fl fc : Nat) (hl2 : s.events.length ≤ 2199023255552) :
    Calls Tryz.prog 123 #[.pointer (some ⟨b, 0, none⟩), .agg #[.int .i64 fa, .int .i64 7, .bool true, .int .i64 fns, .int .i64 fnr, .slice fq fl fc]] w fun e w' => TDid i b c (comeUp 1 s) cl own w e w' := by
  have hlt := h.lt
  have hn0 := h.new0 w.heap.size (Nat.le_refl _)
  have k1 := fun V (hV : Below w.heap.size w V) => becomes_ref (h.later hV) 2 1 (by omega) hl2
  skip
  have K1 := hide k1
  clear h k1
  go_enter Tryz.func123, Tryz.ntmps123
  go_wp2_with fail
  refine (unhide K1 _ ?_).mono ?_
  · exact (Below.refl _ w).alloc (Nat.le_refl _) _
  rintro e w1 ⟨rfl, own1, ⟨q1, cm1, o1, ev1, ce1, oe1, h1⟩, u1⟩
  have HU1 := hide (u1.of ((Below.refl _ w).alloc (Nat.le_refl _) _))
  have HR := hide (And.intro h1 (unhide HU1))
  clear h1 u1 K1 HU1
  go_wp2
  go_end0
  exact ⟨rfl, _, ⟨_, _, _, _, _, _, (unhide HR).1⟩, (unhide HR).2⟩
set_option maxHeartbeats 4000000 in
set_option maxRecDepth 100000 in
theorem calling_8 (h : TAt w own i b c s cl q cm o ev ce oe) (fa : Int) (fns fnr : Int) (fq : Option Addr) (fl fc : Nat) (hl2 : s.events.length ≤ 2199023255552) :
    Calls Tryz.prog 123 #[.pointer (some ⟨b, 0, none⟩), .agg #[.int .i64 fa, .int .i64 8, .bool true, .int .i64 fns, .int .i64 fnr, .slice fq fl fc]] w fun e w' => TDid i b c (goDown 4 s) cl own w e w' := by
  have hlt := h.lt
  have hn0 := h.new0 w.heap.size (Nat.le_refl _)
  have k1 := fun V (hV : Below w.heap.size w V) => becomes_ref (h.later hV) 0 4 (by omega) hl2
  skip
  have K1 := hide k1
  clear h k1
  go_enter Tryz.func123, Tryz.ntmps123
  go_wp2_with fail
  refine (unhide K1 _ ?_).mono ?_
  · exact (Below.refl _ w).alloc (Nat.le_refl _) _
  rintro e w1 ⟨rfl, own1, ⟨q1, cm1, o1, ev1, ce1, oe1, h1⟩, u1⟩
  have HU1 := hide (u1.of ((Below.refl _ w).alloc (Nat.le_refl _) _))
  have HR := hide (And.intro h1 (unhide HU1))
  clear h1 u1 K1 HU1
  go_wp2
  go_end0
  exact ⟨rfl, _, ⟨_, _, _, _, _, _, (unhide HR).1⟩, (unhide HR).2⟩
set_option maxHeartbeats 4000000 in
set_option maxRecDepth 100000 in
theorem calling_7n (h : TAt w own i b c s cl q cm o ev ce oe) (fa : Int) (fns fnr : Int) (fq : Option Addr) (fl fc : Nat) :
    Calls Tryz.prog 123 #[.pointer (some ⟨b, 0, none⟩), .agg #[.int .i64 fa, .int .i64 7, .bool false, .int .i64 fns, .int .i64 fnr, .slice fq fl fc]] w fun e w' => TDid i b c (s) cl own w e w' := by
  have hlt := h.lt
  have hn0 := h.new0 w.heap.size (Nat.le_refl _)
  have HZ : Hid (∀ V, Below w.heap.size w V → TDid i b c (s) cl own w (.returned (.tuple #[])) V) := fun V hV => ⟨rfl, own, ⟨_, _, _, _, _, _, h.later hV⟩, Upd.of hV (Upd.refl _ _ _)⟩
  clear h
  go_enter Tryz.func123, Tryz.ntmps123
  go_wp2
  go_end0
  exact unhide HZ _ ((Below.refl _ w).alloc (Nat.le_refl _) _)
set_option maxHeartbeats 4000000 in
set_option maxRecDepth 100000 in
theorem calling_8n (h : TAt w own i b c s cl q cm o ev ce oe) (fa : Int) (fns fnr : Int) (fq : Option Addr) (fl fc : Nat) :
    Calls Tryz.prog 123 #[.pointer (some ⟨b, 0, none⟩), .agg #[.int .i64 fa, .int .i64 8, .bool false, .int .i64 fns, .int .i64 fnr, .slice fq fl fc]] w fun e w' => TDid i b c (s) cl own w e w' := by
  have hlt := h.lt
  have hn0 := h.new0 w.heap.size (Nat.le_refl _)
  have HZ : Hid (∀ V, Below w.heap.size w V → TDid i b c (s) cl own w (.returned (.tuple #[])) V) := fun V hV => ⟨rfl, own, ⟨_, _, _, _, _, _, h.later hV⟩, Upd.of hV (Upd.refl _ _ _)⟩
  clear h
  go_enter Tryz.func123, Tryz.ntmps123
  go_wp2
  go_end0
  exact unhide HZ _ ((Below.refl _ w).alloc (Nat.le_refl _) _)
set_option maxHeartbeats 4000000 in
set_option maxRecDepth 100000 in
theorem calling_no (h : TAt w own i b c s cl q cm o ev ce oe) (fa : Int) (fk : Int) (fp : Bool) (fns fnr : Int) (fq : Option Addr) (fl fc : Nat) (n5 : (fk == 5) = false) (n6 : (fk == 6) = false) (n7 : (fk == 7) = false) (n8 : (fk == 8) = false) :
    Calls Tryz.prog 123 #[.pointer (some ⟨b, 0, none⟩), .agg #[.int .i64 fa, .int .i64 fk, .bool fp, .int .i64 fns, .int .i64 fnr, .slice fq fl fc]] w fun e w' => TDid i b c (s) cl own w e w' := by
  have hlt := h.lt
  have hn0 := h.new0 w.heap.size (Nat.le_refl _)
  have HZ : Hid (∀ V, Below w.heap.size w V → TDid i b c (s) cl own w (.returned (.tuple #[])) V) := fun V hV => ⟨rfl, own, ⟨_, _, _, _, _, _, h.later hV⟩, Upd.of hV (Upd.refl _ _ _)⟩
  clear h
  go_enter Tryz.func123, Tryz.ntmps123
  go_wp2
  go_end0
  exact unhide HZ _ ((Below.refl _ w).alloc (Nat.le_refl _) _)
set_option maxHeartbeats 4000000 in
set_option maxRecDepth 100000 in
theorem leaving_5 (h : TAt w own i b c s cl q cm o ev ce oe) (fa : Int) (fp : Bool) (fns fnr : Int) (fq : Option Addr) (fl fc : Nat) (hl : s.out.length ≤ 2199023255552) :
    Calls Tryz.prog 124 #[.pointer (some ⟨b, 0, none⟩), .agg #[.int .i64 fa, .int .i64 5, .bool fp, .int .i64 fns, .int .i64 fnr, .slice fq fl fc]] w fun e w' => TDid i b c (respond c 8 fp s) cl own w e w' := by
  have hlt := h.lt
  have hn0 := h.new0 w.heap.size (Nat.le_refl _)
  have k1 := fun V (hV : Below w.heap.size w V) => puts_ref (h.later hV) false ⟨0, 8, fp, 0, 0, []⟩ none 0 (srcE_nil _) hl
  unfold frV at k1
  have K1 := hide k1
  clear h k1
  go_enter Tryz.func124, Tryz.ntmps124
  go_wp2_with fail
  refine (unhide K1 _ ?_).mono ?_
  · exact (Below.refl _ w).alloc (Nat.le_refl _) _
  rintro e w1 ⟨rfl, own1, o1, oe1, h1, u1⟩
  have HU1 := hide (u1.of ((Below.refl _ w).alloc (Nat.le_refl _) _))
  have HR := hide (And.intro h1 (unhide HU1))
  clear h1 u1 K1 HU1
  go_wp2
  go_end0
  exact ⟨rfl, _, ⟨_, _, _, _, _, _, (unhide HR).1⟩, (unhide HR).2⟩
set_option maxHeartbeats 4000000 in
set_option maxRecDepth 100000 in
theorem leaving_6 (h : TAt w own i b c s cl q cm o ev ce oe) (fa : Int) (fp : Bool) (fns fnr : Int) (fq : Option Addr) (fl fc : Nat) (hl : s.out.length ≤ 2199023255552) :
    Calls Tryz.prog 124 #[.pointer (some ⟨b, 0, none⟩), .agg #[.int .i64 fa, .int .i64 6, .bool fp, .int .i64 fns, .int .i64 fnr, .slice fq fl fc]] w fun e w' => TDid i b c (respond c 7 fp s) cl own w e w' := by
  have hlt := h.lt
  have hn0 := h.new0 w.heap.size (Nat.le_refl _)
  have k1 := fun V (hV : Below w.heap.size w V) => puts_ref (h.later hV) false ⟨0, 7, fp, 0, 0, []⟩ none 0 (srcE_nil _) hl
  unfold frV at k1
  have K1 := hide k1
  clear h k1
  go_enter Tryz.func124, Tryz.ntmps124
  go_wp2_with fail
  refine (unhide K1 _ ?_).mono ?_
  · exact (Below.refl _ w).alloc (Nat.le_refl _) _
  rintro e w1 ⟨rfl, own1, o1, oe1, h1, u1⟩
  have HU1 := hide (u1.of ((Below.refl _ w).alloc (Nat.le_refl _) _))
  have HR := hide (And.intro h1 (unhide HU1))
  clear h1 u1 K1 HU1
  go_wp2
  go_end0
  exact ⟨rfl, _, ⟨_, _, _, _, _, _, (unhide HR).1⟩, (unhide HR).2⟩
set_option maxHeartbeats 4000000 in
set_option maxRecDepth 100000 in
theorem leaving_7 (h : TAt w own i b c s cl q cm o ev ce oe) (fa : Int) (fns fnr : Int) (fq : Option Addr) (fl fc : Nat) (hl2 : s.events.length ≤ 2199023255552) :
    Calls Tryz.prog 124 #[.pointer (some ⟨b, 0, none⟩), .agg #[.int .i64 fa, .int .i64 7, .bool true, .int .i64 fns, .int .i64 fnr, .slice fq fl fc]] w fun e w' => TDid i b c (goDown 3 s) cl own w e w' := by
  have hlt := h.lt
  have hn0 := h.new0 w.heap.size (Nat.le_refl _)
  have k1 := fun V (hV : Below w.heap.size w V) => becomes_ref (h.later hV) 0 3 (by omega) hl2
  skip
  have K1 := hide k1
  clear h k1
  go_enter Tryz.func124, Tryz.ntmps124
  go_wp2_with fail
  refine (unhide K1 _ ?_).mono ?_
  · exact (Below.refl _ w).alloc (Nat.le_refl _) _
  rintro e w1 ⟨rfl, own1, ⟨q1, cm1, o1, ev1, ce1, oe1, h1⟩, u1⟩
  have HU1 := hide (u1.of ((Below.refl _ w).alloc (Nat.le_refl _) _))
  have HR := hide (And.intro h1 (unhide HU1))
  clear h1 u1 K1 HU1
  go_wp2
  go_end0
  exact ⟨rfl, _, ⟨_, _, _, _, _, _, (unhide HR).1⟩, (unhide HR).2⟩
set_option maxHeartbeats 4000000 in
set_option maxRecDepth 100000 in
theorem leaving_8 (h : TAt w own i b c s cl q cm o ev ce oe) (fa : Int) (fns fnr : Int) (fq : Option Addr) (fl fc : Nat) (hl2 : s.events.length ≤ 2199023255552) :
    Calls Tryz.prog 124 #[.pointer (some ⟨b, 0, none⟩), .agg #[.int .i64 fa, .int .i64 8, .bool true, .int .i64 fns, .int .i64 fnr, .slice fq fl fc]] w fun e w' => TDid i b c (goDown 3 s) cl own w e w' := by
  have hlt := h.lt
  have hn0 := h.new0 w.heap.size (Nat.le_refl _)
  have k1 := fun V (hV : Below w.heap.size w V) => becomes_ref (h.later hV) 0 3 (by omega) hl2
  skip
  have K1 := hide k1
  clear h k1
  go_enter Tryz.func124, Tryz.ntmps124
  go_wp2_with fail
  refine (unhide K1 _ ?_).mono ?_
  · exact (Below.refl _ w).alloc (Nat.le_refl _) _
  rintro e w1 ⟨rfl, own1, ⟨q1, cm1, o1, ev1, ce1, oe1, h1⟩, u1⟩
  have HU1 := hide (u1.of ((Below.refl _ w).alloc (Nat.le_refl _) _))
  have HR := hide (And.intro h1 (unhide HU1))
  clear h1 u1 K1 HU1
  go_wp2
  go_end0
  exact ⟨rfl, _, ⟨_, _, _, _, _, _, (unhide HR).1⟩, (unhide HR).2⟩
set_option maxHeartbeats 4000000 in
set_option maxRecDepth 100000 in
theorem leaving_7n (h : TAt w own i b c s cl q cm o ev ce oe) (fa : Int) (fns fnr : Int) (fq : Option Addr) (fl fc : Nat) :
    Calls Tryz.prog 124 #[.pointer (some ⟨b, 0, none⟩), .agg #[.int .i64 fa, .int .i64 7, .bool false, .int .i64 fns, .int .i64 fnr, .slice fq fl fc]] w fun e w' => TDid i b c (s) cl own w e w' := by
  have hlt := h.lt
  have hn0 := h.new0 w.heap.size (Nat.le_refl _)
  have HZ : Hid (∀ V, Below w.heap.size w V → TDid i b c (s) cl own w (.returned (.tuple #[])) V) := fun V hV => ⟨rfl, own, ⟨_, _, _, _, _, _, h.later hV⟩, Upd.of hV (Upd.refl _ _ _)⟩
  clear h
  go_enter Tryz.func124, Tryz.ntmps124
  go_wp2
  go_end0
  exact unhide HZ _ ((Below.refl _ w).alloc (Nat.le_refl _) _)
set_option maxHeartbeats 4000000 in
set_option maxRecDepth 100000 in
theorem leaving_8n (h : TAt w own i b c s cl q cm o ev ce oe) (fa : Int) (fns fnr : Int) (fq : Option Addr) (fl fc : Nat) :
    Calls Tryz.prog 124 #[.pointer (some ⟨b, 0, none⟩), .agg #[.int .i64 fa, .int .i64 8, .bool false, .int .i64 fns, .int .i64 fnr, .slice fq fl fc]] w fun e w' => TDid i b c (s) cl own w e w' := by
  have hlt := h.lt
  have hn0 := h.new0 w.heap.size (Nat.le_refl _)
  have HZ : Hid (∀ V, Below w.heap.size w V → TDid i b c (s) cl own w (.returned (.tuple #[])) V) := fun V hV => ⟨rfl, own, ⟨_, _, _, _, _, _, h.later hV⟩, Upd.of hV (Upd.refl _ _ _)⟩
  clear h
  go_enter Tryz.func124, Tryz.ntmps124
  go_wp2
  go_end0
  exact unhide HZ _ ((Below.refl _ w).alloc (Nat.le_refl _) _)
set_option maxHeartbeats 4000000 in
set_option maxRecDepth 100000 in
theorem leaving_no (h : TAt w own i b c s cl q cm o ev ce oe) (fa : Int) (fk : Int) (fp : Bool) (fns fnr : Int) (fq : Option Addr) (fl fc : Nat) (n5 : (fk == 5) = false) (n6 : (fk == 6) = false) (n7 : (fk == 7) = false) (n8 : (fk == 8) = false) :
    Calls Tryz.prog 124 #[.pointer (some ⟨b, 0, none⟩), .agg #[.int .i64 fa, .int .i64 fk, .bool fp, .int .i64 fns, .int .i64 fnr, .slice fq fl fc]] w fun e w' => TDid i b c (s) cl own w e w' := by
  have hlt := h.lt
  have hn0 := h.new0 w.heap.size (Nat.le_refl _)
  have HZ : Hid (∀ V, Below w.heap.size w V → TDid i b c (s) cl own w (.returned (.tuple #[])) V) := fun V hV => ⟨rfl, own, ⟨_, _, _, _, _, _, h.later hV⟩, Upd.of hV (Upd.refl _ _ _)⟩
  clear h
  go_enter Tryz.func124, Tryz.ntmps124
  go_wp2
  go_end0
  exact unhide HZ _ ((Below.refl _ w).alloc (Nat.le_refl _) _)
set_option maxHeartbeats 4000000 in
set_option maxRecDepth 100000 in
theorem broken_5 (h : TAt w own i b c s cl q cm o ev ce oe) (fa : Int) (fp : Bool) (cm0 : Bool) (fns fnr : Int) (fq : Option Addr) (fl fc : Nat) (hl : s.out.length ≤ 2199023255552) (hl2 : s.events.length ≤ 2199023255552) :
    Calls Tryz.prog 125 #[.pointer (some ⟨b, 0, none⟩), .agg #[.int .i64 fa, .int .i64 5, .bool fp, .int .i64 fns, .int .i64 fnr, .slice fq fl fc], .bool cm0] w fun e w' => TDid i b c (accept c fp 2 s) cl own w e w' := by
  have hlt := h.lt
  have hn0 := h.new0 w.heap.size (Nat.le_refl _)
  have k1 := fun V (hV : Below w.heap.size w V) => becomes_ref (h.later hV) 2 2 (by omega) hl2
  skip
  have K1 := hide k1
  clear h k1
  go_enter Tryz.func125, Tryz.ntmps125
  go_wp2_with fail
  refine (unhide K1 _ ?_).mono ?_
  · exact (Below.refl _ w).alloc (Nat.le_refl _) _
  rintro e w1 ⟨rfl, own1, ⟨q1, cm1, o1, ev1, ce1, oe1, h1⟩, u1⟩
  have HU1 := hide (u1.of ((Below.refl _ w).alloc (Nat.le_refl _) _))
  obtain ⟨y0, y1, y2, y3, y4, y5⟩ := frBox (box_kept u1 hn0)
  have k2 := puts_ref h1 false ⟨0, 7, fp, 0, 0, []⟩ none 0 (srcE_nil _) hl
  unfold frV at k2
  have K2 := hide k2
  clear h1 u1 K1 k2
  go_wp2_with fail
  refine (unhide K2).mono ?_
  rintro e w2 ⟨rfl, own2, o2, oe2, h2, u2⟩
  have HR := hide (And.intro h2 ((unhide HU1).trans u2))
  clear h2 u2 K2 HU1 y0 y1 y2 y3 y4 y5
  go_wp2
  go_end0
  exact ⟨rfl, _, ⟨_, _, _, _, _, _, (unhide HR).1⟩, (unhide HR).2⟩
set_option maxHeartbeats 4000000 in
set_option maxRecDepth 100000 in
theorem broken_6 (h : TAt w own i b c s cl q cm o ev ce oe) (fa : Int) (fp : Bool) (cm0 : Bool) (fns fnr : Int) (fq : Option Addr) (fl fc : Nat) (hl : s.out.length ≤ 2199023255552) (hl2 : s.events.length ≤ 2199023255552) :
    Calls Tryz.prog 125 #[.pointer (some ⟨b, 0, none⟩), .agg #[.int .i64 fa, .int .i64 6, .bool fp, .int .i64 fns, .int .i64 fnr, .slice fq fl fc], .bool cm0] w fun e w' => TDid i b c (agree c fp s) cl own w e w' := by
  have hlt := h.lt
  have hn0 := h.new0 w.heap.size (Nat.le_refl _)
  have k1 := fun V (hV : Below w.heap.size w V) => puts_ref (h.later hV) false ⟨0, 7, fp, 0, 0, []⟩ none 0 (srcE_nil _) hl
  unfold frV at k1
  have K1 := hide k1
  clear h k1
  go_enter Tryz.func125, Tryz.ntmps125
  go_wp2_with fail
  refine (unhide K1 _ ?_).mono ?_
  · exact (Below.refl _ w).alloc (Nat.le_refl _) _
  rintro e w1 ⟨rfl, own1, o1, oe1, h1, u1⟩
  have HU1 := hide (u1.of ((Below.refl _ w).alloc (Nat.le_refl _) _))
  obtain ⟨y0, y1, y2, y3, y4, y5⟩ := frBox (box_kept u1 hn0)
  have k2 := becomes_ref h1 0 3 (by omega) hl2
  skip
  have K2 := hide k2
  clear h1 u1 K1 k2
  go_wp2_with fail
  refine (unhide K2).mono ?_
  rintro e w2 ⟨rfl, own2, ⟨q2, cm2, o2, ev2, ce2, oe2, h2⟩, u2⟩
  have HR := hide (And.intro h2 ((unhide HU1).trans u2))
  clear h2 u2 K2 HU1 y0 y1 y2 y3 y4 y5
  go_wp2
  go_end0
  exact ⟨rfl, _, ⟨_, _, _, _, _, _, (unhide HR).1⟩, (unhide HR).2⟩
set_option maxHeartbeats 4000000 in
set_option maxRecDepth 100000 in
theorem broken_8 (h : TAt w own i b c s cl q cm o ev ce oe) (fa : Int) (fp : Bool) (cm0 : Bool) (fns fnr : Int) (fq : Option Addr) (fl fc : Nat) (hl2 : s.events.length ≤ 2199023255552) :
    Calls Tryz.prog 125 #[.pointer (some ⟨b, 0, none⟩), .agg #[.int .i64 fa, .int .i64 8, .bool fp, .int .i64 fns, .int .i64 fnr, .slice fq fl fc], .bool cm0] w fun e w' => TDid i b c (goDown 3 s) cl own w e w' := by
  have hlt := h.lt
  have hn0 := h.new0 w.heap.size (Nat.le_refl _)
  have k1 := fun V (hV : Below w.heap.size w V) => becomes_ref (h.later hV) 0 3 (by omega) hl2
  skip
  have K1 := hide k1
  clear h k1
  go_enter Tryz.func125, Tryz.ntmps125
  go_wp2_with fail
  refine (unhide K1 _ ?_).mono ?_
  · exact (Below.refl _ w).alloc (Nat.le_refl _) _
  rintro e w1 ⟨rfl, own1, ⟨q1, cm1, o1, ev1, ce1, oe1, h1⟩, u1⟩
  have HU1 := hide (u1.of ((Below.refl _ w).alloc (Nat.le_refl _) _))
  have HR := hide (And.intro h1 (unhide HU1))
  clear h1 u1 K1 HU1
  go_wp2
  go_end0
  exact ⟨rfl, _, ⟨_, _, _, _, _, _, (unhide HR).1⟩, (unhide HR).2⟩
set_option maxHeartbeats 4000000 in
set_option maxRecDepth 100000 in
theorem broken_cmd (h : TAt w own i b c s cl q cm o ev ce oe) (fa : Int) (fk : Int) (fp : Bool) (fns fnr : Int) (fq : Option Addr) (fl fc : Nat) (n5 : (fk == 5) = false) (n6 : (fk == 6) = false) (n8 : (fk == 8) = false) (hl : s.out.length ≤ 2199023255552) :
    Calls Tryz.prog 125 #[.pointer (some ⟨b, 0, none⟩), .agg #[.int .i64 fa, .int .i64 fk, .bool fp, .int .i64 fns, .int .i64 fnr, .slice fq fl fc], .bool true] w fun e w' => TDid i b c (report c fp s) cl own w e w' := by
  have hlt := h.lt
  have hn0 := h.new0 w.heap.size (Nat.le_refl _)
  have k1 := fun V (hV : Below w.heap.size w V) => refuses_ref (h.later hV) fp hl
  skip
  have K1 := hide k1
  clear h k1
  go_enter Tryz.func125, Tryz.ntmps125
  go_wp2_with fail
  refine (unhide K1 _ ?_).mono ?_
  · exact (Below.refl _ w).alloc (Nat.le_refl _) _
  rintro e w1 ⟨rfl, own1, o1, oe1, h1, u1⟩
  have HU1 := hide (u1.of ((Below.refl _ w).alloc (Nat.le_refl _) _))
  have HR := hide (And.intro h1 (unhide HU1))
  clear h1 u1 K1 HU1
  go_wp2
  go_end0
  exact ⟨rfl, _, ⟨_, _, _, _, _, _, (unhide HR).1⟩, (unhide HR).2⟩
set_option maxHeartbeats 4000000 in
set_option maxRecDepth 100000 in
theorem broken_no (h : TAt w own i b c s cl q cm o ev ce oe) (fa : Int) (fk : Int) (fp : Bool) (fns fnr : Int) (fq : Option Addr) (fl fc : Nat) (n5 : (fk == 5) = false) (n6 : (fk == 6) = false) (n8 : (fk == 8) = false) :
    Calls Tryz.prog 125 #[.pointer (some ⟨b, 0, none⟩), .agg #[.int .i64 fa, .int .i64 fk, .bool fp, .int .i64 fns, .int .i64 fnr, .slice fq fl fc], .bool false] w fun e w' => TDid i b c (s) cl own w e w' := by
  have hlt := h.lt
  have hn0 := h.new0 w.heap.size (Nat.le_refl _)
  have HZ : Hid (∀ V, Below w.heap.size w V → TDid i b c (s) cl own w (.returned (.tuple #[])) V) := fun V hV => ⟨rfl, own, ⟨_, _, _, _, _, _, h.later hV⟩, Upd.of hV (Upd.refl _ _ _)⟩
  clear h
  go_enter Tryz.func125, Tryz.ntmps125
  go_wp2
  go_end0
  exact unhide HZ _ ((Below.refl _ w).alloc (Nat.le_refl _) _)
end
end Go.Proofs.YtkalonhalhdlaaaGreatDoor

/-
  What one step that writes a frame does to the law's World.
-/
namespace Go.Proofs.YtkalonhalhdlaaaGreatDoor
open Go.RowKit
/-- A step of a script, as it lies in memory. -/
structure OpV where
  kind : Int
  a : Int
  b : Int
  d : Int
  s : ByteArray
  lv : Value
  f : Fr
  fq : Option Addr
  fc : Nat
  c0 : Int
  c1 : Int
  c2 : Int
  c3 : Int
  c4 : Int
  c5 : Int
/-- As a value. -/
def opV (o : OpV) : Value := .agg #[.int .i64 o.kind, .int .i64 o.a, .int .i64 o.b, .int .i64 o.d, .string o.s, o.lv, .int .i64 o.f.a, .int .i64 o.f.k, .bool o.f.p, .int .i64 o.f.ns, .int .i64 o.f.nr, .slice o.fq o.f.info.length o.fc, .int .i64 o.c0, .int .i64 o.c1, .int .i64 o.c2, .int .i64 o.c3, .int .i64 o.c4, .int .i64 o.c5]
/-- As cells. -/
def opCells (o : OpV) : List Value := [.int .i64 o.kind, .int .i64 o.a, .int .i64 o.b, .int .i64 o.d, .string o.s, o.lv, .int .i64 o.f.a, .int .i64 o.f.k, .bool o.f.p, .int .i64 o.f.ns, .int .i64 o.f.nr, .slice o.fq o.f.info.length o.fc, .int .i64 o.c0, .int .i64 o.c1, .int .i64 o.c2, .int .i64 o.c3, .int .i64 o.c4, .int .i64 o.c5]
theorem ctlL_len (m k ns nr : Nat) (p : Bool) : (ctlL m k ns nr p).length ≤ 2 := by
  unfold ctlL
  split <;> simp
theorem writeL_len (m : Int) (f : Fr) : (writeL m f).2.length ≤ 100 := by
  unfold writeL
  split
  · simp
  · split
    · simp
    · split
      · simp
      · rename_i h
        have h2 := ctlL_len m.toNat f.k.toNat f.ns.toNat f.nr.toNat f.p
        have h3 : f.info.length ≤ 32 := by
          unfold infoF repN at h
          by_cases hk1 : f.k = 1
          · rw [if_pos hk1] at h; simp at h; omega
          · rw [if_neg hk1] at h
            by_cases hk9 : f.k = 9
            · rw [if_pos hk9] at h
              by_cases hm8 : m = 8
              · rw [if_pos hm8] at h; simp at h; omega
              · rw [if_neg hm8] at h; simp at h; omega
            · rw [if_neg hk9] at h; simp at h; simp [h]
        simp
        omega
end Go.Proofs.YtkalonhalhdlaaaGreatDoor

/-
  Lists of texts, lent and as bytes; what Bits gives of them.
-/
namespace Go.Proofs.YtkalonhalhdlaaaGreatDoor
open Go.RowKit
theorem LentAt.keeps {X : Nat → Prop} {w w' : World} {B : Nat} {p : Option Addr} {c : Nat} {s : ByteArray} (h : LentAt w B p c s) (hk : Keeps X w w') (hx : ∀ a, p = some a → ¬ X a.block) : LentAt w' B p c s := by
  rcases h with h | ⟨g, h1, h2, h3, h4⟩
  · exact .inl h
  · exact .inr ⟨g, h1, h2, h3, h4.keeps hk (hx _ h1)⟩
end Go.Proofs.YtkalonhalhdlaaaGreatDoor
