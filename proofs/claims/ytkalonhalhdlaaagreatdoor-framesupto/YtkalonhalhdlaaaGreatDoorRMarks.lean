/-
  Lists that hold one mark alone, and append onto such a list: what was marked so in its row stays so.
-/
import Derived.Test.YtkalonhalhdlaaaGreatDoorRWhole
import Derived.ArgAppend
namespace Go.Proofs.YtkalonhalhdlaaaGreatDoor
open Go.RowKit

/-- k times the cells of one mark. -/
def reps (mk : List Value) (k : Nat) : List Value := (List.replicate k mk).flatten
theorem reps_length (mk : List Value) (k : Nat) : (reps mk k).length = k * mk.length := by
  induction k with
  | zero => simp [reps]
  | succ k ih =>
    have e : reps mk (k + 1) = mk ++ reps mk k := by simp [reps, List.replicate_succ]
    rw [e, List.length_append, ih, Nat.succ_mul]; omega
theorem reps_add (mk : List Value) (a b : Nat) : reps mk (a + b) = reps mk a ++ reps mk b := by
  unfold reps
  rw [← List.flatten_append, List.replicate_append_replicate]
theorem reps_take (mk : List Value) (a b : Nat) (h : a ≤ b) : (reps mk b).take (a * mk.length) = reps mk a := by
  have e : b = a + (b - a) := by omega
  rw [e, reps_add, ← reps_length mk a, List.take_left]
theorem reps_one {mk : List Value} (h : ∀ u ∈ mk, u.oneCell' = true) (k : Nat) : ∀ u ∈ reps mk k, u.oneCell' = true := by
  intro u hu
  simp only [reps, List.mem_flatten, List.mem_replicate] at hu
  obtain ⟨l, ⟨_, rfl⟩, hl⟩ := hu
  exact h u hl

/-- A list of k things, each the mark. -/
def MarksK (w : World) (e : TypeId) (mk : List Value) (v : Value) (k : Nat) : Prop := w.ownsRow 0 e mk.length v k (reps mk k)
theorem MarksK.grown {w w' : World} {e : TypeId} {mk : List Value} {v : Value} {k : Nat} {row : Option Nat} (h : MarksK w e mk v k) (hg : w.grownBy w' row) (hne : v.ownBlock = none ∨ v.ownBlock ≠ row) : MarksK w' e mk v k := World.ownsRow.kept h hg hne
theorem MarksK.pre {w : World} {e : TypeId} {mk : List Value} {g k K cap : Nat} (h : MarksK w e mk (.slice (some ⟨g, 0, none⟩) K cap) K) (hk : k ≤ K) : MarksK w e mk (.slice (some ⟨g, 0, none⟩) k cap) k := by
  rcases h.2 with ⟨hv, _⟩ | ⟨g', cap', cur, hv, hb, hg, hc, hm, hs, ht⟩
  · simp at hv
  · simp only [Value.slice.injEq, Option.some.injEq, Addr.mk.injEq] at hv
    obtain ⟨⟨rfl, _⟩, _, rfl⟩ := hv
    refine ⟨reps_length mk k, .inr ⟨g, cap, cur, rfl, Nat.zero_le _, hg, by omega, hm, hs, ?_⟩⟩
    rw [← reps_take mk k K hk, ← ht, List.take_take]
    congr 1
    exact (Nat.min_eq_left (Nat.mul_le_mul_right _ hk)).symm

theorem wpList_append_marks {P : Program} (w : World) {ops : Array Oper} {rest : List Oper} {o : Oper} {a : Act} {Q : Exit → Act → World → Prop}
    (hg : o.guard = none) (s x : Operand) (t : TypeId) (hop : o.op = Op.call { callee := Callee.builtin Builtin.append, args := #[s, x], argTypes := #[t, t] })
    (e : TypeId) (i : TypeInfo) (z : Value) (bytes : Nat) (mk : List Value) (h1 : P.underlying t = some (.slice e)) (h2 : P.info? e = some i) (h3 : i.zero = some z) (h4 : i.size = mk.length) (h5 : i.bytes = bytes) (h6 : z.cells.size = mk.length) (h7 : 0 < mk.length)
    (ho : ∀ u ∈ mk, u.oneCell' = true)
    (v : Value) (n : Nat) (hs : a.eval s = v) (hown : MarksK w e mk v n) (ad : Addr) (m c : Nat) (hm0 : 0 < m) (hx : a.eval x = .slice (some ad) m c)
    (hc : ∀ j u, (reps mk m)[j]? = some u → w.cell? (ad.add j) = some u) (b1 : n + m ≤ maxLen) (b2 : (n + m) * bytes ≤ 140737488355328)
    (hK : ∀ v' w', MarksK w' e mk v' (n + m) → (∀ u k, MarksK w e mk u k → (u.ownBlock = v.ownBlock → k ≤ n + m) → MarksK w' e mk u k) → w.grownBy w' v.ownBlock →
      (v'.ownBlock = v.ownBlock ∨ ∃ q, v'.ownBlock = some q ∧ w.heap.size ≤ q) → wpList P ops Q rest (a.put o.dst v') w') :
    wpList P ops Q (o :: rest) a w := by
  have hnl : (reps mk m).length = m * mk.length := reps_length mk m
  have hno := reps_one ho m
  have hgrow : ∀ ao cap, v = .slice ao n cap → (ao = none → n = 0 ∧ cap = 0) → cap < n + m → wpList P ops Q (o :: rest) a w := by
    intro ao cap hv hnone hfull
    refine wpList_append_grows w hg s x t hop e i z mk.length bytes h1 h2 h3 h4 h5 h6 h7 ao n cap (reps mk n) (hs.trans hv) hnone (reps_length mk n) ?_ ad m c (reps mk m) hx hnl hc hno hfull b1 b2 ?_
    · intro b hb j u hj
      rw [hv, hb] at hown
      rcases hown.2 with ⟨hv', _⟩ | ⟨g, cp, cur, hv', _⟩
      · simp at hv'
      · simp only [Value.slice.injEq, Option.some.injEq] at hv'
        rw [hv'.1]
        exact World.ownsRow.cells hown (g := g) (by rw [hv'.1]; rfl) j u hj
    · intro v' w' hw' hgr
      rw [← reps_add] at hw'
      refine hK v' w' (ownsRow_mono hw' (Nat.zero_le _)) (fun u k hu _ => hu.grown hgr ?_) ⟨hgr.os, hgr.tape, hgr.output, hgr.size, fun k hk _ => hgr.block k hk (by simp)⟩ ?_
      · cases hub : u.ownBlock with
        | none => exact .inl rfl
        | some q => exact .inr (by simp)
      · rcases hw'.2 with ⟨_, h0⟩ | ⟨g, cp, cur, hv', hb, _⟩
        · omega
        · exact .inr ⟨g, by rw [hv']; rfl, hb⟩
  rcases hown.2 with ⟨hv, hn⟩ | ⟨g, cap, cur, hv, _, hgc, hcap, hmx, hsz, ht⟩
  · exact hgrow none 0 (by rw [hv, hn]) (fun _ => ⟨hn, rfl⟩) (by omega)
  · by_cases hroom : n + m ≤ cap
    · rw [hv] at hown
      refine wpList_append_fits w hg s x t hop 0 e i mk.length h1 h2 h4 g n cap (reps mk n) (hs.trans hv) hown ad m c (reps mk m) hx hnl hc hno hroom ?_
      intro w' hw' hgr
      rw [← reps_add] at hw'
      have hvb : v.ownBlock = some g := by rw [hv]; rfl
      refine hK _ w' hw' (fun u k hu hle => ?_) (by rw [hvb]; exact hgr) (.inl (by rw [hvb]; rfl))
      by_cases hub : u.ownBlock = some g
      · have hk := hle (by rw [hub, hvb])
        rcases hu.2 with ⟨huv, _⟩ | ⟨g2, cap2, cur2, huv, _, hg2, hc2, hm2, hs2, ht2⟩
        · rw [huv] at hub; simp [Value.ownBlock] at hub
        · have eg : g2 = g := by rw [huv] at hub; simpa [Value.ownBlock] using hub
          subst eg
          rw [hgc] at hg2
          simp only [Option.some.injEq, Obj.cells.injEq] at hg2
          have ec : cap2 = cap := by
            have : cap2 * mk.length = cap * mk.length := by rw [← hs2, ← hsz, hg2.1]
            exact Nat.eq_of_mul_eq_mul_right h7 this
          rw [huv, ec]
          exact MarksK.pre hw' hk
      · exact hu.grown hgr (.inr hub)
    · exact hgrow (some ⟨g, 0, none⟩) cap hv (fun h => by simp at h) (by omega)
end Go.Proofs.YtkalonhalhdlaaaGreatDoor
