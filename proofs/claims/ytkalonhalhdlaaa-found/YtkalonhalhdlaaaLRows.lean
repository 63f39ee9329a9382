/-
  A list of frames that a call has made, in memory; what one call of Bits does with it; texts that are cut in pieces.
-/
import Derived.Test.YtkalonhalhdlaaaLPlain
namespace Go.Proofs.Ytkalonhalhdlaaa
open Go.RowKit

theorem infoSlice : (Try.prog.info? 28).map (fun i => (i.zero, i.size, i.bytes)) = some (some (.slice none 0 0), 1, 24) := by kernel_rfl

/-- A list of frames, of the call's own: its row, and each frame's bytes in a row of bytes. -/
def FramesV (w : World) (base : Nat) (v : Value) (fs : List (List UInt8)) : Prop :=
  ∃ cs : List Value, w.ownsRow base 28 1 v fs.length cs ∧ ∀ i, i < fs.length → ∃ b cap c fz, cs[i]? = some (.slice (some ⟨b, 0, none⟩) (fs.getD i []).length cap) ∧ base ≤ b ∧ w.heap[b]? = some (.cells c 5 fz) ∧ Seg w b 0 (fs.getD i [])

theorem FramesV.nil (w : World) (base : Nat) : FramesV w base (.slice none 0 0) [] := ⟨[], World.ownsRow_nil _ _ _ _, fun i hi => by simp at hi⟩

theorem FramesV.keeps {X : Nat → Prop} {w w' : World} {base : Nat} {v : Value} {fs : List (List UInt8)} (h : FramesV w base v fs) (hk : Keeps X w w') (hx : ∀ k, X k → ∀ c fz, w.heap[k]? ≠ some (.cells c 28 fz) ∧ w.heap[k]? ≠ some (.cells c 5 fz)) : FramesV w' base v fs := by
  obtain ⟨cs, h1, h2⟩ := h
  refine ⟨cs, ownsRow_keeps h1 hk fun k hX c fz => (hx k hX c fz).1, fun i hi => ?_⟩
  obtain ⟨b, cap, c, fz, e1, e2, e3, e4⟩ := h2 i hi
  have hb : b < w.heap.size := (Array.getElem?_eq_some_iff.1 e3).1
  have hX : ¬ X b := fun hX => (hx b hX c fz).2 e3
  exact ⟨b, cap, c, fz, e1, e2, by rw [hk.block b hb hX]; exact e3, e4.keeps hk hb hX⟩

theorem FramesV.old {w w' : World} {base : Nat} {v : Value} {fs : List (List UInt8)} (h : FramesV w base v fs) (hb : Below w.heap.size w w') : FramesV w' base v fs :=
  h.keeps (X := fun _ => False) (Keeps.of hb) fun _ hX => absurd hX id

theorem FramesV.form {w : World} {base : Nat} {v : Value} {fs : List (List UInt8)} (h : FramesV w base v fs) : ∃ ao cp, v = .slice ao fs.length cp := by
  obtain ⟨cs, h1, _⟩ := h
  rcases h1.2 with ⟨hv, h0⟩ | ⟨g, cp, cur, hv, _⟩
  · exact ⟨none, 0, by rw [hv, h0]⟩
  · exact ⟨_, _, hv⟩

/-- One frame of the list. -/
theorem FramesV.get {w : World} {base : Nat} {v : Value} {fs : List (List UInt8)} (h : FramesV w base v fs) (i : Nat) (hi : i < fs.length) :
    ∃ g cp b cap, v = .slice (some ⟨g, 0, none⟩) fs.length cp ∧ g < w.heap.size ∧ w.cell? ⟨g, i, none⟩ = some (.slice (some ⟨b, 0, none⟩) (fs.getD i []).length cap) ∧ b < w.heap.size ∧ Seg w b 0 (fs.getD i []) := by
  obtain ⟨cs, h1, h2⟩ := h
  obtain ⟨b, cap, c, fz, e1, _, e3, e4⟩ := h2 i hi
  rcases h1.2 with ⟨_, h0⟩ | ⟨g, cp, cur, hv, _, hg, _, _, _, ht⟩
  · omega
  · refine ⟨g, cp, b, cap, hv, (Array.getElem?_eq_some_iff.1 hg).1, ?_, (Array.getElem?_eq_some_iff.1 e3).1, e4⟩
    rw [Lib.cell_of_heap hg]
    have h3 := congrArg (fun l => l[i]?) ht
    simp only [Nat.mul_one, List.getElem?_take_of_lt hi] at h3
    have : cur[i]? = cur.toList[i]? := by simp
    rw [this, h3]
    exact e1

/-- One frame more. -/
theorem FramesV.put {w w2 : World} {base : Nat} {v v' : Value} {fs : List (List UInt8)} {f : List UInt8} {b cap : Nat} {c : Array Value} {fz : Nat × Nat} {o : Obj} {cs : List Value} (h1 : w.ownsRow base 28 1 v fs.length cs) (h2 : ∀ i, i < fs.length → ∃ b cap c fz, cs[i]? = some (.slice (some ⟨b, 0, none⟩) (fs.getD i []).length cap) ∧ base ≤ b ∧ w.heap[b]? = some (.cells c 5 fz) ∧ Seg w b 0 (fs.getD i [])) (hb : base ≤ b) (hc : w.heap[b]? = some (.cells c 5 fz)) (hs : Seg w b 0 f)
    (hown : w2.ownsRow base 28 1 v' (fs.length + 1) (cs ++ [.slice (some ⟨b, 0, none⟩) f.length cap])) (hgrow : (w.alloc o).grownBy w2 v.ownBlock) :
    FramesV w2 base v' (fs ++ [f]) ∧ ∀ k, some k = v.ownBlock → base ≤ k ∧ ∃ c fz, w.heap[k]? = some (.cells c 28 fz) := by
  have hrow : ∀ k, some k = v.ownBlock → base ≤ k ∧ ∃ c fz, w.heap[k]? = some (.cells c 28 fz) := by
    intro kk hk
    rcases h1.2 with ⟨hv, _⟩ | ⟨g, cp, cur, hv, hgb, hgh, _⟩
    · rw [hv] at hk; simp [Value.ownBlock] at hk
    · rw [hv] at hk
      simp [Value.ownBlock] at hk
      subst hk
      exact ⟨hgb, cur, _, hgh⟩
  have hA : Keeps (fun _ => False) w (w.alloc o) := (Keeps.refl _ w).alloc _
  have hg := Keeps.grown hgrow
  have carry : ∀ {b : Nat} {l : List UInt8} {c : Array Value} {fz : Nat × Nat}, w.heap[b]? = some (.cells c 5 fz) → Seg w b 0 l → w2.heap[b]? = some (.cells c 5 fz) ∧ Seg w2 b 0 l := by
    intro b l c fz e1 e2
    have hlt : b < w.heap.size := (Array.getElem?_eq_some_iff.1 e1).1
    have hne : ¬ some b = v.ownBlock := by
      intro q
      obtain ⟨_, c', fz', q'⟩ := hrow b q
      rw [e1] at q'
      simp at q'
    have hltA : b < (w.alloc o).heap.size := Nat.lt_of_lt_of_le hlt hA.size
    refine ⟨by rw [hg.block b hltA hne, hA.block b hlt id]; exact e1, (e2.keeps hA hlt id).keeps hg hltA hne⟩
  refine ⟨⟨cs ++ [.slice (some ⟨b, 0, none⟩) f.length cap], by rw [List.length_append]; exact hown, ?_⟩, hrow⟩
  have hl : cs.length = fs.length := by have := h1.1; omega
  intro i hi
  simp at hi
  by_cases e : i < fs.length
  · obtain ⟨b', cap', c', fz', e1, e2, e3, e4⟩ := h2 i e
    obtain ⟨q1, q2⟩ := carry e3 e4
    refine ⟨b', cap', c', fz', ?_, e2, q1, ?_⟩
    · rw [List.getElem?_append_left (by omega), e1]; simp [List.getD, List.getElem?_append_left e]
    · simpa [List.getD, List.getElem?_append_left e] using q2
  · have e' : i = fs.length := by omega
    subst e'
    obtain ⟨q1, q2⟩ := carry hc hs
    refine ⟨b, cap, c, fz, ?_, hb, q1, ?_⟩
    · rw [← hl, List.getElem?_append_right (Nat.le_refl _)]; simp [hl]
    · simpa using q2

/-- Bits of such a list. -/
theorem bits_v (base : Nat) (v : Value) (fs : List (List UInt8)) (w : World) (h : FramesV w base v fs) (hn : fs.length ≤ 1048576) (hlen : ∀ f ∈ fs, 2 ≤ f.length ∧ f.length ≤ 64) :
    Calls Try.prog 7 #[v] w fun e w' => e = .returned (.tuple #[.string ⟨(txt (wireL fs)).toArray⟩, .int .i64 0]) ∧ Below w.heap.size w w' := by
  cases hfs : fs with
  | nil =>
    obtain ⟨ao, cp, hv⟩ := h.form
    rw [hfs] at hv
    rw [hv]
    exact bits_none ao cp w
  | cons f r =>
    obtain ⟨g, cp, b, cap, hv, hg, _⟩ := h.get 0 (by rw [hfs]; simp)
    rw [hv, ← hfs]
    refine bits_some g 0 cp fs w hn hg ?_ hlen
    intro i hi
    obtain ⟨g', cp', b', cap', hv', _, hc', hb', hs'⟩ := h.get i hi
    rw [hv] at hv'
    simp only [Value.slice.injEq, Option.some.injEq, Addr.mk.injEq] at hv'
    obtain ⟨⟨rfl, _⟩, _⟩ := hv'
    exact ⟨b', 0, cap', by rw [Nat.zero_add]; exact hc', hb', hs'⟩

/-- Bits ahead of a nought and six ones. -/
def sixL : List Bool := [false, true, true, true, true, true, true]
def nineL : List Bool := [false, false, true, true, true, true, true, true, false]
theorem sixL_length : sixL.length = 7 := rfl
theorem nineL_length : nineL.length = 9 := rfl
theorem six_txt : (⟨(txt sixL).toArray⟩ : ByteArray) = ⟨#[48, 49, 49, 49, 49, 49, 49]⟩ := rfl
theorem nine_txt : (⟨(txt nineL).toArray⟩ : ByteArray) = ⟨#[48, 48, 49, 49, 49, 49, 49, 49, 48]⟩ := rfl
theorem six_c (s : IH) (tb : List Bool) : (feedI s (tb ++ sixL)).1.c = 6 := by
  rw [feedI_append]
  exact ones6 (feedI s tb).1
theorem nine_clean (h : HS) (s : IH) (k : Sim h s) (hc : s.c = 6) : Sim (feedH h nineL).1 ⟨true, 0, []⟩ := by
  have := (sim_feed h s nineL k).1
  rw [show (feedI s nineL).1 = ⟨true, 0, []⟩ from hears_flag s hc] at this
  exact this

def strLen : Value → Nat | .string b => b.size | _ => 0

theorem extract_txt (l : List Bool) (i j : Nat) : (⟨(txt l).toArray⟩ : ByteArray).extract i j = ⟨(txt ((l.take j).drop i)).toArray⟩ := by
  apply ByteArray.ext
  apply Array.toList_inj.1
  have := extract_list (txt l) i j
  rw [Lib.toList_data] at this
  rw [this]
  simp [txt, List.map_drop, List.map_take]

end Go.Proofs.Ytkalonhalhdlaaa
