/-
  How a link begins: the two stations' first frames in plain words; the link's block while it is filled.
-/
import Derived.Test.YtkalonhalhdlaaaDoorKConf
namespace Go.Proofs.YtkalonhalhdlaaaDoor
open Go.RowKit

/-- The frames of the beginning. -/
def fS (m : Nat) : Msg := (writeL m ⟨1, 5, true, 0, 0, []⟩).2
def fU (m : Nat) : Msg := (writeL m ⟨1, 7, true, 0, 0, []⟩).2
theorem fS_read {m : Nat} (hm : m = 8 ∨ m = 128) : readL m (fS m) = (0, ⟨1, 5, true, 0, 0, []⟩) ∧ (fS m).length ≤ 32 := by
  rcases hm with rfl | rfl
  · exact ⟨by rfl, by decide⟩
  · exact ⟨by rfl, by decide⟩
theorem fU_read {m : Nat} (hm : m = 8 ∨ m = 128) : readL m (fU m) = (0, ⟨1, 7, true, 0, 0, []⟩) ∧ (fU m).length ≤ 32 := by
  rcases hm with rfl | rfl
  · exact ⟨by rfl, by decide⟩
  · exact ⟨by rfl, by decide⟩

/-- The two configurations of a link. -/
def cfgs (x : Raw) : Nat → Cfg := fun i => x.cfg (3 - 2 * i)
theorem cfgs_ok (x : Raw) {i : Nat} (hi : i < 2) : (cfgs x i).ok := x.cfg_ok (by have : i = 0 ∨ i = 1 := (by omega); rcases this with rfl | rfl <;> simp)

def stUp : St := { St.fresh with state := 2 }
def stCall (c : Cfg) : St := { St.fresh with state := 1, tries := 1, timer := c.tim }
/-- The stations ahead of the j-th hand-over. -/
def begS (x : Raw) (j : Nat) : Nat → St := fun i =>
  if j = 0 then (if i = 0 then { stCall (cfgs x 0) with out := [fS (cfgs x 0).m] } else St.fresh)
  else if j = 1 then (if i = 0 then stCall (cfgs x 0) else { stUp with out := [fU (cfgs x 1).m], events := [1] })
  else { stUp with events := [1] }
def begF (x : Raw) (j : Nat) : Msg := if j = 0 then fS (cfgs x 0).m else fU (cfgs x 1).m
theorem begS_first (x : Raw) : connectS (cfgs x 0) St.fresh = (0, begS x 0 0) := by
  simp [connectS, St.fresh, begS, callS, ask, putC, put, over, stCall, fS, cfgs, Raw.cfg]
theorem begS_out (x : Raw) {j : Nat} (hj : j < 2) : (begS x j j).out = [begF x j] := by
  have : j = 0 ∨ j = 1 := by omega
  rcases this with rfl | rfl <;> simp [begS, begF]
theorem begF_len (x : Raw) (j : Nat) : (begF x j).length ≤ 32 := by
  unfold begF
  split
  · exact (fS_read (cfgs_ok x (by omega)).m).2
  · exact (fU_read (cfgs_ok x (by omega)).m).2
theorem begS_hear (x : Raw) {j : Nat} (hj : j < 2) : hearS (cfgs x (1 - j)) (begF x j) (begS x j (1 - j)) = (0, begS x (j + 1) (1 - j)) := by
  have hm : (cfgs x 0).m = (cfgs x 1).m := rfl
  have h0 := cfgs_ok x (i := 0) (by omega)
  have h1 := cfgs_ok x (i := 1) (by omega)
  have : j = 0 ∨ j = 1 := by omega
  rcases this with rfl | rfl
  · have hr := (fS_read h1.m).1
    show hearS (cfgs x 1) (fS (cfgs x 0).m) St.fresh = (0, begS x 1 1)
    rw [hm]
    unfold hearS
    rw [hr]
    simp [heeds, isCmd, cfgs, Raw.cfg, hearFrame, St.fresh, hearDown, accept, respond, comeUp, tell, over, putR, put, begS, stUp, fU]
  · have hr := (fU_read h0.m).1
    show hearS (cfgs x 0) (fU (cfgs x 1).m) (stCall (cfgs x 0)) = (0, begS x 2 0)
    rw [← hm]
    unfold hearS
    rw [hr]
    simp [heeds, isCmd, cfgs, Raw.cfg, hearFrame, St.fresh, hearCalling, comeUp, tell, over, begS, stUp, stCall]
theorem begS_next (x : Raw) {j i : Nat} (hj : j < 2) (hi : i < 2) : upd (upd (begS x j) j { begS x j j with out := [] }) (1 - j) (begS x (j + 1) (1 - j)) i = begS x (j + 1) i := by
  have h1 : j = 0 ∨ j = 1 := by omega
  have h2 : i = 0 ∨ i = 1 := by omega
  rcases h1 with rfl | rfl <;> rcases h2 with rfl | rfl <;> simp [upd, begS, stCall, stUp, St.fresh]

/-- A list that came out is a list of frames that are on their way. -/
theorem Lst.way {w : World} {own : Nat → Nat} {v : Value} {es : List Value} {l : List Msg} (h : Lst w own 0 v es l) : Way w own 0 v l := by
  obtain ⟨h1, h2⟩ := h.row
  have hel := h.len
  rcases h2 with ⟨rfl, h2⟩ | ⟨g, cap, cur, rfl, _, h3, h4, h5, h6, h7⟩
  · exact ⟨none, 0, by rw [h2], by omega, Nat.zero_le _, .inl ⟨rfl, rfl⟩⟩
  · refine ⟨_, cap, rfl, h4, h5, .inr ⟨g, 0, cur, rfl, h.rown g rfl, h3, by omega, fun j m hj => ?_⟩⟩
    have hjl : j < l.length := (List.getElem?_eq_some_iff.1 hj).1
    have hjc : j < cur.size := by omega
    refine ⟨cur[j], by simp [hjc], h.each j _ m ?_ hj⟩
    rw [← h7, List.getElem?_take]
    simp [hjl, hjc]

/-- The link's block while its stations are made. -/
def begCells (b : Nat → Nat) (j : Nat) : Array Value :=
  #[if 0 < j then .pointer (some ⟨b 0, 0, none⟩) else .pointer none, if 1 < j then .pointer (some ⟨b 1, 0, none⟩) else .pointer none, .slice none 0 0, .slice none 0 0, .slice none 0 0, .slice none 0 0, .int .i64 0, .int .i64 0, .bool false]
structure Beg (w : World) (x : Raw) (kb : Nat) (b : Nat → Nat) (j : Nat) (own : Nat → Nat) (wr : World) : Prop where
  head : wr.heap[kb]? = some (.cells (begCells b j) 51 (0, 0))
  ownk : own kb = tg 2 0
  st : ∀ i, i < j → Stn wr own i (b i) (cfgs x i) St.fresh false
  xb : wr.heap[w.heap.size]? = some (.cells #[.bool x.wide, .int .i64 x.win, .int .i64 x.tim, .int .i64 x.tri, .int .i64 x.room] 33 (0, 0))
  kx : kb ≠ w.heap.size
  lo : ∀ k, own k ≠ 0 → w.heap.size ≤ k
  bel : Below w.heap.size w wr
  own0 : own 0 = 0
  ctl : Ctl wr
  new0 : ∀ k, wr.heap.size ≤ k → own k = 0

theorem Beg.lt {w : World} {x : Raw} {kb : Nat} {b : Nat → Nat} {j : Nat} {own : Nat → Nat} {wr : World} (h : Beg w x kb b j own wr) : kb < wr.heap.size := (Array.getElem?_eq_some_iff.1 h.head).1
/-- A station more. -/
theorem Beg.more {w : World} {x : Raw} {kb : Nat} {b : Nat → Nat} {j : Nat} {own : Nat → Nat} {wr V w2 : World} {bj : Nat} (h : Beg w x kb b j own wr) (hj : j < 2) (hV : Below wr.heap.size wr V) (h2 : Below V.heap.size V w2)
    (hS : Stn w2 (ownNew own V.heap.size w2.heap.size (tg j 0)) j bj (cfgs x j) St.fresh false) :
    Beg w x kb (upd b j bj) (j + 1) (ownNew own V.heap.size w2.heap.size (tg j 0)) (w2.setCell ⟨kb, j, none⟩ (.pointer (some ⟨bj, 0, none⟩))) := by
  have hlt := h.lt
  have hz := h.bel.size
  have hzV := hV.size
  have hz2 := h2.size
  have hb : Below wr.heap.size wr w2 := hV.trans (h2.mono hzV)
  have hold : ∀ k, k < V.heap.size → ownNew own V.heap.size w2.heap.size (tg j 0) k = own k := fun k hk => ownNew_old hk
  have hkb2 : ownNew own V.heap.size w2.heap.size (tg j 0) kb = tg 2 0 := (hold kb (by omega)).trans h.ownk
  have hh2 : w2.heap[kb]? = some (.cells (begCells b j) 51 (0, 0)) := by rw [(show Keeps (fun _ => False) wr w2 from Keeps.of hb).block kb hlt id]; exact h.head
  have hKs : Keeps (· = kb) w2 (w2.setCell ⟨kb, j, none⟩ (.pointer (some ⟨bj, 0, none⟩))) := (Keeps.refl _ w2).setB _ _
  have hK : Keeps (· = kb) wr (w2.setCell ⟨kb, j, none⟩ (.pointer (some ⟨bj, 0, none⟩))) := ((show Keeps (fun _ => False) wr w2 from Keeps.of hb).mono (fun _ h => absurd h id)).trans hKs
  have hX : ∀ i p, i < 2 → p < 5 → ∀ k, k = kb → tg 2 0 ≠ tg i p := fun i p hi hp k _ => tg_ne (by omega) hp (.inl (by omega))
  have hn' : ∀ k, (w2.setCell ⟨kb, j, none⟩ (.pointer (some ⟨bj, 0, none⟩))).heap.size ≤ k → ownNew own V.heap.size w2.heap.size (tg j 0) k = 0 := fun k hk => ownNew_0 (by omega) (by rw [size_setCell] at hk; exact hk)
  refine ⟨?_, hkb2, ?_, ?_, h.kx, ?_, ?_, (hold 0 (by omega)).trans h.own0, ?_, hn'⟩
  · rw [block_set hh2]
    have : j = 0 ∨ j = 1 := by omega
    rcases this with rfl | rfl <;> rfl
  · intro i hi
    by_cases e : i = j
    · subst e
      rw [upd_same]
      exact hS.others hKs (fun k hk => by rw [hk, hkb2]; exact ⟨tg_pos _ _, fun p hp => hX i p (by omega) hp kb rfl⟩) (fun _ _ _ => rfl) hn'
    · rw [upd_other _ _ e]
      refine (h.st i (by omega)).others hK (fun k hk => by rw [hk, h.ownk]; exact ⟨tg_pos _ _, fun p hp => hX i p (by omega) hp kb rfl⟩) (fun k hk _ => hold k (by omega)) hn'
  · rw [hK.block _ (Array.getElem?_eq_some_iff.1 h.xb).1 (fun e => h.kx e.symm)]
    exact h.xb
  · intro k hk
    by_cases hkV : k < V.heap.size
    · exact h.lo k (by rw [← hold k hkV]; exact hk)
    · omega
  · exact (h.bel.trans (hb.mono hz)).trans ((Below.refl _ w2).setCell (by show w.heap.size ≤ kb; exact h.lo kb (by rw [h.ownk]; exact tg_pos _ _)) _)
  · exact h.ctl.keeps hK (by omega) (fun e => by have := h.ownk; rw [← e, h.own0] at this; exact tg_pos _ _ this.symm)
/-- Both are there. -/
theorem Beg.link {w : World} {x : Raw} {kb : Nat} {b : Nat → Nat} {own : Nat → Nat} {wr : World} (h : Beg w x kb b 2 own wr) : KAt wr own kb b (cfgs x) (fun _ => St.fresh) (fun _ => .slice none 0 0) (fun _ => .slice none 0 0) (fun _ => []) (fun _ => []) (fun _ => 0) false :=
  ⟨h.head, h.ownk, h.st, fun i hi => fresh_ok (cfgs_ok x hi), fun i _ => Way.nil _ _ _, fun i _ => ⟨World.ownsRow_nil _ _ _ _, fun k hk => by simp [Value.ownBlock] at hk⟩⟩
end Go.Proofs.YtkalonhalhdlaaaDoor
