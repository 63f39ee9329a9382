/-
  What one call of Frames does.
-/
import Derived.Test.YtkalonhalhdlaaaGreatDoorRPlays
import Derived.Test.YtkalonhalhdlaaaGreatDoorRStep
namespace Go.Proofs.YtkalonhalhdlaaaGreatDoor
open Go.RowKit

theorem first_ok {w : World} {g2 g3 g4 : Nat} (h4 : w.heap[g4]? = some (.cells #[.int .u8 97] 5 (1, 2))) : ∀ o ∈ firstOps g2 g3 g4, OpOk w o := by
  have hn : ∀ {k a b d : Int} {s : ByteArray} {lv : Value} {c0 c1 c2 c3 c4 c5 : Int}, (∃ lp ln lc, lv = .slice lp ln lc) → s.size ≤ 1048576 → OpOk w ⟨k, a, b, d, s, lv, ⟨0, 0, false, 0, 0, []⟩, none, 0, c0, c1, c2, c3, c4, c5⟩ := fun h1 h2 => ⟨h1, .inl ⟨rfl, rfl⟩, by show (0 : Nat) ≤ _; omega, h2⟩
  intro o ho
  simp only [firstOps, List.mem_cons, List.not_mem_nil, or_false] at ho
  rcases ho with rfl | rfl | rfl | rfl | rfl | rfl | rfl | rfl | rfl | rfl | rfl | rfl | rfl | rfl | rfl | rfl | rfl | rfl | rfl | rfl | rfl
  case inr.inr.inr.inr.inl =>
    refine ⟨⟨_, _, _, rfl⟩, .inr ⟨⟨g4, 0, none⟩, rfl, fun j u hj => ?_⟩, by show (1 : Nat) ≤ _; omega, by show (0 : Nat) ≤ _; omega⟩
    match j, hj with
    | 0, hj =>
      simp [Lib.byteCells] at hj
      subst hj
      have : (⟨g4, 0, none⟩ : Addr).add 0 = ⟨g4, 0, none⟩ := by simp [Addr.add]
      rw [this, Lib.cell_of_heap h4]
      rfl
    | j + 1, hj => simp [Lib.byteCells] at hj
  all_goals exact hn ⟨_, _, _, rfl⟩ (by decide)

/-- Amid a script of frames: the book has grown by at most four lists a step. -/
def FrJ (V : World) (L r : Nat) (W : World) : Prop := (∃ bs ents, BookB V.heap.size W V.heap.size (.slice none 0 0) (.slice none 0 0) (.slice none 0 0) (.slice none 0 0) (.slice none 0 0) bs ents ∧ ents.length ≤ 4 * min r L) ∧ Below V.heap.size V W
theorem played_frames {V : World} {g cap' : Nat} {os : List OpV} (hsm : os.length ≤ 2000000) (hC : Ctl V) (h0 : 0 < V.heap.size) (hg : g < V.heap.size) (hops : OpsAt V g os) (hok : ∀ o ∈ os, OpOk V o) :
    Calls Tryz.prog 11 #[.slice (some ⟨g, 0, none⟩) os.length cap', .int .i64 10, .int .i64 11] V fun e w' => e = .returned (.bool true) ∧ Below V.heap.size V w' := by
  refine played_any (lo := 10) (hi := 11) (cap := cap') (B := V.heap.size) hg hops (by omega) (FrJ V os.length) ?_ ?_ ?_ ?_ ?_
  · refine ⟨⟨.slice none 0 0, [], ⟨alloc1_a _ _, World.ownsRow_nil _ _ _ _, fun i v hi => by simp at hi, rfl, Nat.le_refl _, fun k hk => by cases hk⟩, Nat.zero_le _⟩, (Below.refl _ V).alloc (Nat.le_refl _) _⟩
  · exact fun r W h => h.2
  · rintro r W ⟨⟨bs, ents, h1, h2⟩, h3⟩
    exact ⟨⟨bs, ents, h1, by omega⟩, h3⟩
  · rintro r W o ho hlo hhi ⟨⟨bs, ents, h1, h2⟩, h3⟩
    have hr : r < os.length := (List.getElem?_eq_some_iff.1 ho).1
    have hk : o.kind = 10 ∨ o.kind = 11 := by omega
    refine (step_frames V.heap.size V.heap.size _ _ _ _ _ bs ents o W hk ((hok o (List.mem_of_getElem? ho)).below h3 (Nat.le_refl _)) (hC.below h3 h0) h1 h0 h3.size (by omega)).mono ?_
    rintro e w' ⟨rfl, bs', ents', k1, k2, k3⟩
    exact ⟨rfl, ⟨bs', ents', k1, by omega⟩, h3.trans k3⟩
  · rintro r W ⟨⟨bs, ents, h1, h2⟩, h3⟩
    refine (looks_any V.heap.size _ _ bs ents W h1.head h1.row h1.marks (by omega)).mono ?_
    rintro e w' ⟨rfl, rfl⟩
    exact ⟨rfl, ⟨bs, ents, h1, h2⟩, h3⟩
/-- What a step that was opened gives. -/
theorem OpIn.fit {w : World} {N : Nat} {o : OpV} (h : OpIn w N o) (hN : N ≤ 1048576) : OpOk w o := by
  refine ⟨?_, h.src, Nat.le_trans h.info hN, Nat.le_trans h.s hN⟩
  rcases h.lv with e | ⟨a, len, cap, e, _⟩
  · exact ⟨_, _, _, e⟩
  · exact ⟨_, _, _, e⟩
set_option maxHeartbeats 4000000 in
set_option maxRecDepth 100000 in
theorem frames_any {a : Option Addr} {len cap : Nat} {os : List OpV} {w : World} (hs : Script w a len cap os) (hok : ∀ o ∈ os, OpOk w o) (hC : Ctl w) (hw : 0 < w.heap.size) :
    Calls Tryz.prog 4 #[.slice a len cap] w fun e w' => e = .returned (.bool true) ∧ Below w.heap.size w w' := by
  have k1 : Calls Tryz.prog 8 #[.slice a len cap, .int .i64 10, .int .i64 11] w fun e w' => e = .returned (.bool true) ∧ Below w.heap.size w w' := by
    refine plays_any hs (fun V g cap' hV hg1 hg2 h4 hops => ?_)
    have hsz := hV.size
    have hl : (firstOps (w.heap.size + 1 + 1) (w.heap.size + 1 + 1 + 1) (w.heap.size + 1 + 1 + 1 + 1) ++ os).length = 21 + len := by rw [List.length_append, firstOps_len, hs.hlen]
    have hsm := hs.small
    have q := played_frames (cap' := cap') (by rw [hl]; omega) (hC.below hV hw) (by omega) hg2 hops (fun o ho => by
      rcases List.mem_append.1 ho with ho | ho
      · exact first_ok h4 o ho
      · exact (hok o ho).below hV (Nat.le_refl _))
    rw [hl] at q
    refine q.mono ?_
    rintro e w' ⟨rfl, hb⟩
    exact ⟨rfl, hb.mono hsz⟩
  have K1 := hide k1
  clear k1
  go_enter Tryz.func4, Tryz.ntmps4
  go_wp2_with fail
  refine (unhide K1).mono ?_
  rintro e w1 ⟨rfl, hb⟩
  clear K1
  have HB := hide hb
  clear hb
  go_wp2
  go_ret
  exact ⟨rfl, unhide HB⟩
end Go.Proofs.YtkalonhalhdlaaaGreatDoor
