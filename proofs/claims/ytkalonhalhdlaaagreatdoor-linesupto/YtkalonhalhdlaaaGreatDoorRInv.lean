/-
  The book as a script's steps leave it; what one more list of bytes does to it; what is lent, whole.
-/
import Derived.Test.YtkalonhalhdlaaaGreatDoorRLooks
import Derived.Test.YtkalonhalhdlaaaGreatDoorFCells
namespace Go.Proofs.YtkalonhalhdlaaaGreatDoor
open Go.RowKit

theorem mark_four {n : Nat} (h : n % 4 = 0) (j : Nat) (hj : j < 4) : markN (n + j) = markN n := by
  unfold markN
  have : (n + j) / 4 = n / 4 := by omega
  rw [this]

/-- The book: its lists of bytes hold their marks; it lies from B on. -/
structure BookB (B : Nat) (w : World) (wb : Nat) (hs ss fs ls is bs : Value) (ents : List Value) : Prop where
  head : WAt w wb #[hs, ss, bs, fs, ls, is]
  row : w.ownsRow 0 28 1 bs ents.length ents
  marks : ∀ i v, ents[i]? = some v → ∃ k, MarksK w 5 [.int .u8 (markN i : Nat)] v k ∧ k ≤ 1099511627776
  four : ents.length % 4 = 0
  lo : B ≤ wb
  loB : ∀ k, bs.ownBlock = some k → B ≤ k

section
variable {B : Nat} {w : World} {wb : Nat} {hs ss fs ls is bs : Value} {ents : List Value}
theorem BookB.turned {w' : World} (h : BookB B w wb hs ss fs ls is bs ents) (X : Nat → Prop) (hk : Keeps X w w') (h1 : ¬ X wb) (h2 : ∀ k, X k → ∀ c fz, w.heap[k]? ≠ some (.cells c 28 fz)) (h3 : ∀ k, X k → ∀ c fz, w.heap[k]? ≠ some (.cells c 5 fz)) : BookB B w' wb hs ss fs ls is bs ents :=
  ⟨h.head.keeps hk h1, ownsRow_keeps h.row hk h2, fun i v hi => by obtain ⟨k, hm, hk2⟩ := h.marks i v hi; exact ⟨k, ownsRow_keeps hm hk h3, hk2⟩, h.four, h.lo, h.loB⟩
theorem BookB.later {w' : World} (h : BookB B w wb hs ss fs ls is bs ents) (hb : Below w.heap.size w w') : BookB B w' wb hs ss fs ls is bs ents :=
  h.turned (fun _ => False) (Keeps.of hb) id (fun _ hi => absurd hi id) (fun _ hi => absurd hi id)
end

/-- One more list of bytes, new since w0, is kept. -/
theorem keeps_book {B : Nat} {w0 w : World} {wb : Nat} {hs ss fs ls is bs v : Value} {ents xs : List Value} {n : Nat} (h0 : BookB B w0 wb hs ss fs ls is bs ents) (hb : Below w0.heap.size w0 w) (hv : w.ownsRow w0.heap.size 5 1 v n xs) (hB : B ≤ w0.heap.size) (hN : ents.length ≤ 1099511627776) (hn : n ≤ 1048576) :
    Calls Tryz.prog 34 #[.pointer (some ⟨wb, 2, none⟩), v] w fun e w' => e = .returned (.tuple #[]) ∧ ∃ bs' ents', BookB B w' wb hs ss fs ls is bs' ents' ∧ ents'.length = ents.length + 4 ∧ Below B w w' := by
  have h := h0.later hb
  have hv0 := ownsRow_mono hv (Nat.zero_le _)
  refine (keeps_any wb (fun i => i = wb ∨ some i = bs.ownBlock ∨ some i = v.ownBlock) (.inl rfl) hs ss bs fs ls is v ents xs n w h.head h.row hv0 (fun k hk => .inl (.inr (.inl hk.symm))) (fun k hk => .inl (.inr (.inr hk.symm))) hN (by omega)).mono ?_
  rintro e w' ⟨rfl, bs', v1, v2, v3, K⟩
  have hvlo : ∀ i, some i = v.ownBlock → w0.heap.size ≤ i := fun i hi => (hv.lt i hi.symm).1
  have hXB : ∀ i, (i = wb ∨ some i = bs.ownBlock ∨ some i = v.ownBlock) → B ≤ i := by
    rintro i (rfl | hi | hi)
    · exact h.lo
    · exact h.loB i hi.symm
    · exact Nat.le_trans hB (hvlo i hi)
  refine ⟨rfl, bs', ents ++ [v, v1, v2, v3], ⟨K.head, K.row, ?_, ?_, h.lo, ?_⟩, by simp, ⟨K.keeps.os, K.keeps.tape, K.keeps.output, K.keeps.size, fun k hk => ?_⟩⟩
  · intro i u hi
    by_cases hlt : i < ents.length
    · rw [List.getElem?_append_left hlt] at hi
      obtain ⟨k, hm, hk2⟩ := h0.marks i u hi
      refine ⟨k, ?_, hk2⟩
      have hm1 : MarksK w 5 [.int .u8 (markN i : Nat)] u k := ownsRow_keeps hm (Keeps.of (X := fun _ => False) hb) (fun _ q => absurd q id)
      have hul : ∀ j, u.ownBlock = some j → j < w0.heap.size := fun j hj => (World.ownsRow.lt hm j hj).2
      -- by blocks
      rcases hm1.2 with h2 | ⟨g, cap, cur, e1, e2, e3, e4⟩
      · exact ⟨hm1.1, .inl h2⟩
      · refine ⟨hm1.1, .inr ⟨g, cap, cur, e1, e2, ?_, e4⟩⟩
        rw [K.keeps.block g (Array.getElem?_eq_some_iff.1 e3).1 ?_]
        · exact e3
        · rintro (hx | hx | hx)
          · have := h.head
            unfold WAt at this
            rw [← hx, e3] at this
            simp at this
          · obtain ⟨c2, h2⟩ := ownsRow_isRow h.row hx.symm
            rw [e3] at h2
            simp at h2
          · have h2 := hvlo g hx
            have h3 := hul g (by rw [e1]; rfl)
            omega
    · rw [List.getElem?_append_right (by omega)] at hi
      obtain ⟨j, hj⟩ : ∃ j, i - ents.length = j := ⟨_, rfl⟩
      rw [hj] at hi
      have hij : i = ents.length + j := by omega
      have hj4 : j < 4 := by
        have := (List.getElem?_eq_some_iff.1 hi).1
        simpa using this
      rw [hij, mark_four h.four j hj4]
      have hc : j = 0 ∨ j = 1 ∨ j = 2 ∨ j = 3 := by omega
      rcases hc with rfl | rfl | rfl | rfl <;> (simp at hi; subst hi)
      · exact ⟨n, K.marks (v, n) (by simp), by omega⟩
      · exact ⟨n + 1, K.marks (v1, n + 1) (by simp), by omega⟩
      · exact ⟨n + 2, K.marks (v2, n + 2) (by simp), by omega⟩
      · exact ⟨n + 3, K.marks (v3, n + 3) (by simp), by omega⟩
  · have := h.four
    simp; omega
  · intro k hk
    rcases K.mineB k hk with hx | hx
    · exact hXB k hx
    · exact Nat.le_trans hB (Nat.le_trans hb.size hx)
  · by_cases hw : k < w.heap.size
    · exact K.keeps.block k hw (fun hx => by have := hXB k hx; omega)
    · exact absurd (Nat.lt_of_lt_of_le hk hB) (by have := hb.size; omega)

/-- What was lent: nothing, or a text's bytes and eight more of the caller's. -/
def LentAt (w : World) (B : Nat) (p : Option Addr) (c : Nat) (s : ByteArray) : Prop := (p = none ∧ c = 0 ∧ s.size = 0) ∨ ∃ g, p = some ⟨g, 0, none⟩ ∧ c = s.size + 8 ∧ B ≤ g ∧ RowIs w g (lentL s)
theorem LentAt.below {w w' : World} {B : Nat} {p : Option Addr} {c : Nat} {s : ByteArray} (h : LentAt w B p c s) (hb : Below w.heap.size w w') : LentAt w' B p c s := by
  rcases h with h | ⟨g, h1, h2, h3, h4⟩
  · exact .inl h
  · exact .inr ⟨g, h1, h2, h3, h4.below hb h4.lt⟩
theorem LentAt.src {w : World} {B : Nat} {p : Option Addr} {c : Nat} {s : ByteArray} (h : LentAt w B p c s) : SrcIs w p s.data.toList := by
  rcases h with ⟨rfl, _, h0⟩ | ⟨g, rfl, _, _, h4⟩
  · refine .inl ⟨rfl, ?_⟩
    exact List.eq_nil_of_length_eq_zero (by simpa using h0)
  · refine .inr ⟨g, 0, rfl, h4.lt, ?_⟩
    have := h4.seg.take s.size
    have e : (lentL s).take s.size = s.data.toList := by
      have e2 : s.size = s.data.toList.length := by simp
      rw [lentL, e2, List.take_left]
    rwa [e] at this
theorem LentAt.cap {w : World} {B : Nat} {p : Option Addr} {c : Nat} {s : ByteArray} (h : LentAt w B p c s) : s.size ≤ c ∧ c ≤ s.size + 8 := by
  rcases h with ⟨_, hc, h0⟩ | ⟨_, _, hc, _⟩ <;> omega

theorem lent_any (s : ByteArray) (raw : Int) (w : World) (hs : s.size ≤ 1099511627776) :
    Calls Tryz.prog 24 #[.string s, .int .i64 raw] w fun e w' => ∃ p c, e = .returned (.slice p s.size c) ∧ LentAt w' w.heap.size p c s ∧ Below w.heap.size w w' := by
  by_cases h : s.size = 0 ∧ raw.tmod 2 ≠ 0
  · refine (lent_nil s raw w h.1 h.2).mono ?_
    rintro e w' ⟨rfl, rfl⟩
    exact ⟨none, 0, by rw [h.1], .inl ⟨rfl, rfl, h.1⟩, Below.refl _ _⟩
  · refine (lent_some s raw w hs h).mono ?_
    rintro e w' ⟨rfl, hr, hb, _⟩
    exact ⟨_, _, rfl, .inr ⟨_, rfl, rfl, Nat.le_refl _, hr⟩, hb⟩

theorem whole_any {B : Nat} {p : Option Addr} {c : Nat} {s : ByteArray} {w : World} (h : LentAt w B p c s) (hs : s.size ≤ 1099511627776) :
    Calls Tryz.prog 26 #[.slice p s.size c, .string s] w fun e w' => e = .returned (.bool true) ∧ Keeps (fun i => some i = p.map (·.block)) w w' ∧ (∀ i, some i = p.map (·.block) → B ≤ i ∧ ∃ x, w.heap[i]? = some (.cells x 5 (0, 0))) := by
  rcases h with ⟨rfl, rfl, h0⟩ | ⟨g, rfl, rfl, hg, hr⟩
  · rw [h0]
    refine (whole_nil s w).mono ?_
    rintro e w' ⟨rfl, rfl⟩
    exact ⟨rfl, Keeps.refl _ _, fun i hi => by simp at hi⟩
  · refine (whole_some g s w hs hr).mono ?_
    rintro e w' ⟨rfl, hk, _⟩
    exact ⟨rfl, hk.mono (fun i hi => by simp [hi]), fun i hi => by simp at hi; subst hi; exact ⟨hg, _, hr⟩⟩
end Go.Proofs.YtkalonhalhdlaaaGreatDoor
