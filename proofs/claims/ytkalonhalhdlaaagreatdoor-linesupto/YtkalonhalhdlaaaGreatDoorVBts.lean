import Derived.Test.YtkalonhalhdlaaaGreatDoorVPls
import Derived.Test.YtkalonhalhdlaaaGreatDoorRBits2
import Derived.Deep.RegionWith
import Derived.Deep.CutRange
/-
  Lists of texts, lent and as bytes; what Bits gives of them.
-/
namespace Go.Proofs.YtkalonhalhdlaaaGreatDoor
open Go.RowKit

/-- A list of texts in memory. -/
def TextsAt (w : World) (p : Option Addr) (ls : List ByteArray) : Prop := ls = [] ∨ ∃ b off, p = some ⟨b, off, none⟩ ∧ b < w.heap.size ∧ ∀ i (h : i < ls.length), w.cell? ⟨b, off + i, none⟩ = some (.string ls[i])
theorem TextsAt.below {w w' : World} {p : Option Addr} {ls : List ByteArray} (h : TextsAt w p ls) {B : Nat} (hb : Below B w w') (hB : w.heap.size ≤ B) : TextsAt w' p ls := by
  rcases h with h | ⟨b, off, e, hl, h⟩
  · exact .inl h
  · refine .inr ⟨b, off, e, Nat.lt_of_lt_of_le hl hb.size, fun i hi => ?_⟩
    rw [hb.cell (p := ⟨b, off + i, none⟩) (by show b < B; omega)]
    exact h i hi

def bitsS (ls : List ByteArray) : ByteArray := if (ls.map ByteArray.size).all good then ⟨(txt (wireL (ls.map fun s => s.data.toList))).toArray⟩ else ⟨#[]⟩
def bitsE (ls : List ByteArray) : Int := if (ls.map ByteArray.size).all good then 0 else 1
theorem good_len {ls : List ByteArray} (h : (ls.map ByteArray.size).all good = true) : ∀ f ∈ ls.map (fun s => s.data.toList), 2 ≤ f.length ∧ f.length ≤ 64 := by
  intro f hf
  obtain ⟨s, hs, rfl⟩ := List.mem_map.1 hf
  have := List.all_eq_true.1 h s.size (List.mem_map_of_mem hs)
  unfold good at this
  simpa using this
theorem bitsS_size (ls : List ByteArray) : (bitsS ls).size ≤ 1064 * ls.length + 8 := by
  unfold bitsS
  split
  · rename_i h
    have := wireL_length (ls.map fun s => s.data.toList) (fun f hf => (good_len h f hf).2)
    rw [List.length_map] at this
    show (txt _).toArray.size ≤ _
    rw [List.size_toArray, txt_length]
    exact this
  · exact Nat.zero_le _

/-- A block that holds a text's bytes. -/
def ByR (w : World) (g : Nat) (s : ByteArray) : Prop := (∃ c fz, w.heap[g]? = some (.cells c 5 fz)) ∧ Seg w g 0 s.data.toList
theorem ByR.keeps {X : Nat → Prop} {w w' : World} {g : Nat} {s : ByteArray} (h : ByR w g s) (hk : Keeps X w w') (hx : ¬ X g) : ByR w' g s := by
  obtain ⟨⟨c, fz, hc⟩, hs⟩ := h
  have hl := (Array.getElem?_eq_some_iff.1 hc).1
  refine ⟨⟨c, fz, (hk.block g hl hx).trans hc⟩, fun i hi => ?_⟩
  rw [hk.cell (p := ⟨g, 0 + i, none⟩) hl hx]
  exact hs i hi
theorem ByR.lt {w : World} {g : Nat} {s : ByteArray} (h : ByR w g s) : g < w.heap.size := by
  obtain ⟨⟨c, fz, hc⟩, _⟩ := h
  exact (Array.getElem?_eq_some_iff.1 hc).1
theorem LentAt.keeps {X : Nat → Prop} {w w' : World} {B : Nat} {p : Option Addr} {c : Nat} {s : ByteArray} (h : LentAt w B p c s) (hk : Keeps X w w') (hx : ∀ a, p = some a → ¬ X a.block) : LentAt w' B p c s := by
  rcases h with h | ⟨g, h1, h2, h3, h4⟩
  · exact .inl h
  · exact .inr ⟨g, h1, h2, h3, h4.keeps hk (hx _ h1)⟩
theorem LentAt.lower {w : World} {B B' : Nat} {p : Option Addr} {c : Nat} {s : ByteArray} (h : LentAt w B p c s) (hB : B' ≤ B) : LentAt w B' p c s := by
  rcases h with h | ⟨g, h1, h2, h3, h4⟩
  · exact .inl h
  · exact .inr ⟨g, h1, h2, Nat.le_trans hB h3, h4⟩
theorem LentAt.ty {w : World} {B : Nat} {p : Option Addr} {c : Nat} {s : ByteArray} (h : LentAt w B p c s) {a : Addr} (ha : p = some a) : ∃ cc, w.heap[a.block]? = some (.cells cc 5 (0, 0)) := by
  rcases h with ⟨h, _⟩ | ⟨g, h1, h2, h3, h4⟩
  · rw [h] at ha
    cases ha
  · rw [h1] at ha
    cases ha
    exact ⟨_, h4⟩

/-- A list whose texts are bytes of their own, as far as it has come. -/
structure RefIn (w : World) (ls : List ByteArray) (wr : World) (vm : Value) (em : List Value) : Prop where
  row : wr.ownsRow w.heap.size 28 1 vm em.length em
  each : ∀ (i : Nat) (v : Value), em[i]? = some v → ∃ s g c, ls[i]? = some s ∧ v = .slice (some ⟨g, 0, none⟩) s.size c ∧ ByR wr g s
structure LentIn (w : World) (ls : List ByteArray) (wr : World) (vl : Value) (el : List Value) : Prop where
  row : wr.ownsRow w.heap.size 28 1 vl el.length el
  each : ∀ (i : Nat) (v : Value), el[i]? = some v → ∃ s p c, ls[i]? = some s ∧ v = .slice p s.size c ∧ LentAt wr w.heap.size p c s
  apart : ∀ (i j : Nat) (u v : Value), i ≠ j → el[i]? = some u → el[j]? = some v → ∀ k, u.ownBlock = some k → v.ownBlock ≠ some k
section
variable {w : World} {ls : List ByteArray} {wr wr' : World} {vm vl : Value} {em el : List Value}
theorem of_own {p : Option Addr} {n c : Nat} {a : Addr} (h : p = some a) : (Value.slice p n c).ownBlock = some a.block := by rw [h]; rfl
theorem own_of {p : Option Addr} {n c k : Nat} (h : (Value.slice p n c).ownBlock = some k) : ∃ a, p = some a ∧ a.block = k := by
  cases p with
  | none => simp [Value.ownBlock] at h
  | some a => exact ⟨a, rfl, by simpa [Value.ownBlock] using h⟩
theorem RefIn.keeps {X : Nat → Prop} (h : RefIn w ls wr vm em) (hk : Keeps X wr wr') (h1 : ∀ k, vm.ownBlock = some k → ¬ X k) (h2 : ∀ k c fz, wr.heap[k]? = some (.cells c 5 fz) → ¬ X k) : RefIn w ls wr' vm em := by
  refine ⟨ownsRow_keepsB h.row hk h1, fun i v hv => ?_⟩
  obtain ⟨s, g, c, e1, e2, e3⟩ := h.each i v hv
  obtain ⟨c2, fz, hc⟩ := e3.1
  exact ⟨s, g, c, e1, e2, e3.keeps hk (h2 g c2 fz hc)⟩
theorem LentIn.keeps {X : Nat → Prop} (h : LentIn w ls wr vl el) (hk : Keeps X wr wr') (h1 : ∀ k, vl.ownBlock = some k → ¬ X k) (h2 : ∀ k c fz, wr.heap[k]? = some (.cells c 5 fz) → ¬ X k) : LentIn w ls wr' vl el := by
  refine ⟨ownsRow_keepsB h.row hk h1, fun i v hv => ?_, h.apart⟩
  obtain ⟨s, p, c, e1, e2, e3⟩ := h.each i v hv
  refine ⟨s, p, c, e1, e2, e3.keeps hk (fun a ha => ?_)⟩
  obtain ⟨cc, hc⟩ := e3.ty ha
  exact h2 _ _ _ hc
theorem RefIn.later (h : RefIn w ls wr vm em) (hb : Below wr.heap.size wr wr') : RefIn w ls wr' vm em := h.keeps (X := fun _ => False) (Keeps.of hb) (fun _ _ => id) (fun _ _ _ _ => id)
theorem LentIn.later (h : LentIn w ls wr vl el) (hb : Below wr.heap.size wr wr') : LentIn w ls wr' vl el := h.keeps (X := fun _ => False) (Keeps.of hb) (fun _ _ => id) (fun _ _ _ _ => id)
/-- A row of lists is grown: the bytes stay. -/
theorem row_not {W : World} {B n : Nat} {v : Value} {xs : List Value} (h : W.ownsRow B 28 1 v n xs) : ∀ k c fz, W.heap[k]? = some (.cells c 5 fz) → ¬ some k = v.ownBlock := by
  intro k c fz hc hk
  obtain ⟨c2, hc2⟩ := ownsRow_isRow h hk.symm
  rw [hc] at hc2
  simp at hc2
theorem RefIn.push {y : World} {v' : Value} {g c : Nat} {s : ByteArray} (h : RefIn w ls wr vm em) (hs : ls[em.length]? = some s) (hb : ByR wr g s)
    (hown : y.ownsRow w.heap.size 28 1 v' (em.length + 1) (em ++ [.slice (some ⟨g, 0, none⟩) s.size c])) (hg : wr.grownBy y vm.ownBlock) : RefIn w ls y v' (em ++ [.slice (some ⟨g, 0, none⟩) s.size c]) := by
  have hG := Keeps.grown hg
  refine ⟨by rw [List.length_append]; exact hown, fun i v hv => ?_⟩
  have hby : ∀ {g : Nat} {s : ByteArray}, ByR wr g s → ByR y g s := by
    intro g s hq
    obtain ⟨c2, fz, hc⟩ := hq.1
    exact hq.keeps hG (row_not h.row g c2 fz hc)
  by_cases hlt : i < em.length
  · rw [List.getElem?_append_left hlt] at hv
    obtain ⟨s, g, c, e1, e2, e3⟩ := h.each i v hv
    exact ⟨s, g, c, e1, e2, hby e3⟩
  · rw [List.getElem?_append_right (by omega)] at hv
    have hz : i - em.length = 0 := by
      have := (List.getElem?_eq_some_iff.1 hv).1
      simp at this
      omega
    rw [hz] at hv
    simp at hv
    have hi : i = em.length := by omega
    subst hi
    exact ⟨s, g, c, hs, hv.symm, hby hb⟩
theorem LentIn.push {y : World} {v' : Value} {p : Option Addr} {c : Nat} {s : ByteArray} (h : LentIn w ls wr vl el) (hs : ls[el.length]? = some s) (hb : LentAt wr w.heap.size p c s) (hnew : ∀ a, p = some a → ∀ u ∈ el, u.ownBlock ≠ some a.block)
    (hown : y.ownsRow w.heap.size 28 1 v' (el.length + 1) (el ++ [.slice p s.size c])) (hg : wr.grownBy y vl.ownBlock) : LentIn w ls y v' (el ++ [.slice p s.size c]) := by
  have hG := Keeps.grown hg
  have hby : ∀ {p : Option Addr} {c : Nat} {s : ByteArray}, LentAt wr w.heap.size p c s → LentAt y w.heap.size p c s := by
    intro p c s hq
    refine hq.keeps hG (fun a ha => ?_)
    obtain ⟨cc, hc⟩ := hq.ty ha
    exact row_not h.row _ _ _ hc
  have hcase : ∀ i v, (el ++ [.slice p s.size c])[i]? = some v → (i < el.length ∧ el[i]? = some v) ∨ (i = el.length ∧ v = .slice p s.size c) := by
    intro i v hv
    by_cases hlt : i < el.length
    · rw [List.getElem?_append_left hlt] at hv
      exact .inl ⟨hlt, hv⟩
    · rw [List.getElem?_append_right (by omega)] at hv
      have hz : i - el.length = 0 := by
        have := (List.getElem?_eq_some_iff.1 hv).1
        simp at this
        omega
      rw [hz] at hv
      simp at hv
      exact .inr ⟨by omega, hv.symm⟩
  refine ⟨by rw [List.length_append]; exact hown, fun i v hv => ?_, fun i j u v hij hu hv k hk hk2 => ?_⟩
  · rcases hcase i v hv with ⟨_, hv⟩ | ⟨rfl, rfl⟩
    · obtain ⟨s, p, c, e1, e2, e3⟩ := h.each i v hv
      exact ⟨s, p, c, e1, e2, hby e3⟩
    · exact ⟨s, p, c, hs, rfl, hby hb⟩
  · rcases hcase i u hu with ⟨_, hu⟩ | ⟨hi, rfl⟩
    · rcases hcase j v hv with ⟨_, hv⟩ | ⟨hj, rfl⟩
      · exact h.apart i j u v hij hu hv k hk hk2
      · obtain ⟨a, ha, rfl⟩ := own_of hk2
        exact hnew a ha u (List.mem_of_getElem? hu) hk
    · rcases hcase j v hv with ⟨_, hv⟩ | ⟨hj, rfl⟩
      · obtain ⟨a, ha, rfl⟩ := own_of hk
        exact hnew a ha v (List.mem_of_getElem? hv) hk2
      · omega
end

theorem row_some {W : World} {B n : Nat} {v : Value} {xs : List Value} (h : W.ownsRow B 28 1 v n xs) (hn : 0 < n) : ∃ g cap, v = .slice (some ⟨g, 0, none⟩) n cap ∧ g < W.heap.size ∧ ∀ i u, xs[i]? = some u → W.cell? ⟨g, 0 + i, none⟩ = some u := by
  rcases h.2 with ⟨_, h0⟩ | ⟨g, cap, cur, hv, _, hg, _⟩
  · omega
  · refine ⟨g, cap, hv, (Array.getElem?_eq_some_iff.1 hg).1, fun i u hi => ?_⟩
    have := World.ownsRow.cells h (g := g) (by rw [hv]; rfl) i u hi
    rwa [Go.WideShapes.add_plain] at this
theorem map_getD (ls : List ByteArray) (i : Nat) (s : ByteArray) (h : ls[i]? = some s) : (ls.map fun s => s.data.toList).getD i [] = s.data.toList ∧ (ls.map ByteArray.size).getD i 0 = s.size := by
  simp [List.getD, List.getElem?_map, h]

theorem refBits_in {w : World} {ls : List ByteArray} {wr : World} {vm : Value} {em : List Value} (h : RefIn w ls wr vm em) (hl : em.length = ls.length) (hn : ls.length ≤ 1048576) (hsz : ∀ s ∈ ls, s.size ≤ 1048576) :
    Calls Tryz.prog 30 #[vm] wr fun e w' => e = .returned (.tuple #[.string (bitsS ls), .int .i64 (bitsE ls)]) ∧ Below wr.heap.size wr w' := by
  by_cases h0 : ls = []
  · subst h0
    obtain ⟨p, c, hv, _⟩ := ownsRow_slice h.row
    rw [hl] at hv
    rw [hv]
    exact refBits_none p c wr
  · have hpos : 0 < ls.length := List.length_pos_iff.2 h0
    obtain ⟨g, cap, hv, hg, hc⟩ := row_some h.row (by omega)
    rw [hl] at hv
    have hem : ∀ i, i < ls.length → ∃ v, em[i]? = some v := fun i hi => ⟨_, List.getElem?_eq_getElem (by omega)⟩
    by_cases hgd : (ls.map ByteArray.size).all good = true
    · have hF : FramesAt wr g 0 (ls.map fun s => s.data.toList) := by
        intro i hi
        rw [List.length_map] at hi
        obtain ⟨v, hv⟩ := hem i hi
        obtain ⟨s, b, c, e1, e2, e3⟩ := h.each i v hv
        rw [(map_getD ls i s e1).1]
        refine ⟨b, 0, c, ?_, e3.lt, e3.2⟩
        rw [hc i v hv, e2, Array.length_toList]
        rfl
      have q := refBits_some g 0 cap (ls.map fun s => s.data.toList) wr (by rw [List.length_map]; exact hn) hg hF (good_len hgd)
      rw [List.length_map] at q
      rw [hv]
      refine q.mono ?_
      rintro e w' ⟨rfl, hb⟩
      refine ⟨?_, hb⟩
      unfold bitsS bitsE
      rw [if_pos hgd, if_pos hgd]
    · have hF : LensAt wr g 0 (ls.map ByteArray.size) := by
        intro i hi
        rw [List.length_map] at hi
        obtain ⟨v, hv⟩ := hem i hi
        obtain ⟨s, b, c, e1, e2, e3⟩ := h.each i v hv
        rw [(map_getD ls i s e1).2]
        exact ⟨_, c, by rw [hc i v hv, e2]⟩
      have q := refBits_bad g 0 cap (ls.map ByteArray.size) wr (by rw [List.length_map]; exact hn) hF (by simpa using hgd) (fun n hn => by
        obtain ⟨s, hs, rfl⟩ := List.mem_map.1 hn
        have := hsz s hs
        unfold maxLen
        omega)
      rw [List.length_map] at q
      rw [hv]
      refine q.mono ?_
      rintro e w' ⟨rfl, rfl⟩
      refine ⟨?_, Below.refl _ _⟩
      unfold bitsS bitsE
      rw [if_neg hgd, if_neg hgd]

theorem bits_in {w : World} {ls : List ByteArray} {wr : World} {vl : Value} {el : List Value} (h : LentIn w ls wr vl el) (hl : el.length = ls.length) (hn : ls.length ≤ 1048576) (hsz : ∀ s ∈ ls, s.size ≤ 1048576) :
    Calls Tryz.prog 29 #[vl] wr fun e w' => e = .returned (.tuple #[.string (bitsS ls), .int .i64 (bitsE ls)]) ∧ Below wr.heap.size wr w' := by
  by_cases h0 : ls = []
  · subst h0
    obtain ⟨p, c, hv, _⟩ := ownsRow_slice h.row
    rw [hl] at hv
    rw [hv]
    exact bits_none p c wr
  · have hpos : 0 < ls.length := List.length_pos_iff.2 h0
    obtain ⟨g, cap, hv, hg, hc⟩ := row_some h.row (by omega)
    rw [hl] at hv
    have hem : ∀ i, i < ls.length → ∃ v, el[i]? = some v := fun i hi => ⟨_, List.getElem?_eq_getElem (by omega)⟩
    by_cases hgd : (ls.map ByteArray.size).all good = true
    · have hF : FramesAt wr g 0 (ls.map fun s => s.data.toList) := by
        intro i hi
        rw [List.length_map] at hi
        obtain ⟨v, hv⟩ := hem i hi
        obtain ⟨s, p, c, e1, e2, e3⟩ := h.each i v hv
        have hlen := good_len hgd _ (List.mem_map_of_mem (List.mem_of_getElem? e1))
        rw [Array.length_toList] at hlen
        rw [(map_getD ls i s e1).1]
        rcases e3.src with ⟨_, e0⟩ | ⟨b, off, rfl, hb, hs⟩
        · rw [← Array.length_toList, e0] at hlen
          simp at hlen
        · refine ⟨b, off, c, ?_, hb, hs⟩
          rw [hc i v hv, e2, Array.length_toList]
          rfl
      have q := bits_some g 0 cap (ls.map fun s => s.data.toList) wr (by rw [List.length_map]; exact hn) hg hF (good_len hgd)
      rw [List.length_map] at q
      rw [hv]
      refine q.mono ?_
      rintro e w' ⟨rfl, hb⟩
      refine ⟨?_, hb⟩
      unfold bitsS bitsE
      rw [if_pos hgd, if_pos hgd]
    · have hF : LensAt wr g 0 (ls.map ByteArray.size) := by
        intro i hi
        rw [List.length_map] at hi
        obtain ⟨v, hv⟩ := hem i hi
        obtain ⟨s, p, c, e1, e2, e3⟩ := h.each i v hv
        rw [(map_getD ls i s e1).2]
        exact ⟨_, c, by rw [hc i v hv, e2]⟩
      have q := bits_bad g 0 cap (ls.map ByteArray.size) wr (by rw [List.length_map]; exact hn) hF (by simpa using hgd) (fun n hn => by
        obtain ⟨s, hs, rfl⟩ := List.mem_map.1 hn
        have := hsz s hs
        unfold maxLen
        omega)
      rw [List.length_map] at q
      rw [hv]
      refine q.mono ?_
      rintro e w' ⟨rfl, hb⟩
      refine ⟨?_, hb⟩
      unfold bitsS bitsE
      rw [if_neg hgd, if_neg hgd]
end Go.Proofs.YtkalonhalhdlaaaGreatDoor

/-
  What one call of the law's plain does: Bits.
-/
namespace Go.Proofs.YtkalonhalhdlaaaGreatDoor
open Go.RowKit

/-- Two worlds that differ in what is drawn alone. -/
def SameW (V w : World) : Prop := V.heap = w.heap ∧ V.os = w.os ∧ V.tape = w.tape ∧ V.output = w.output
theorem sameW {V w : World} (h1 : V.heap = w.heap) (h2 : V.os = w.os) (h3 : V.tape = w.tape) (h4 : V.output = w.output) : SameW V w := ⟨h1, h2, h3, h4⟩
theorem SameW.keeps {X : Nat → Prop} {V w w' : World} (h : SameW V w) (hk : Keeps X V w') : Keeps X w w' := by
  obtain ⟨h1, h2, h3, h4⟩ := h
  exact ⟨hk.os.trans h2, hk.tape.trans h3, hk.output.trans h4, h1 ▸ hk.size, fun k hl hx => by have := hk.block k (h1 ▸ hl) hx; rwa [h1] at this⟩
theorem SameW.below {B : Nat} {V w w' : World} (h : SameW V w) (hk : Below B V w') : Below B w w' := by
  obtain ⟨h1, h2, h3, h4⟩ := h
  exact ⟨hk.os.trans h2, hk.tape.trans h3, hk.output.trans h4, h1 ▸ hk.size, fun k hl => by have := hk.block k hl; rwa [h1] at this⟩
theorem lent_same {V w : World} (h : SameW V w) (s : ByteArray) (raw : Int) (hs : s.size ≤ 1048576) :
    Calls Tryz.prog 24 #[.string s, .int .i64 raw] V fun e w' => ∃ p c, e = .returned (.slice p s.size c) ∧ LentAt w' w.heap.size p c s ∧ Below w.heap.size w w' := by
  refine (lent_any s raw V (by omega)).mono ?_
  rintro e w' ⟨p, c, rfl, h1, h2⟩
  rw [h.1] at h1 h2
  exact ⟨p, c, rfl, h1, h.below h2⟩
theorem whole_same {V w : World} (h : SameW V w) {B : Nat} {p : Option Addr} {c : Nat} {s : ByteArray} (hl : LentAt w B p c s) (hs : s.size ≤ 1048576) :
    Calls Tryz.prog 26 #[.slice p s.size c, .string s] V fun e w' => e = .returned (.bool true) ∧ Keeps (fun i => some i = p.map (·.block)) w w' := by
  have hl2 : LentAt V B p c s := by
    unfold LentAt RowIs at hl ⊢
    rw [h.1]
    exact hl
  refine (whole_any hl2 (by omega)).mono ?_
  rintro e w' ⟨rfl, h1, _⟩
  exact ⟨rfl, h.keeps h1⟩

structure BIn (WA : World) (ls : List ByteArray) (k : Nat) (wr : World) (vl vm : Value) (el em : List Value) : Prop where
  l : LentIn WA ls wr vl el
  m : RefIn WA ls wr vm em
  ll : el.length = k
  lm : em.length = k
  ne : ∀ q, vl.ownBlock = some q → vm.ownBlock ≠ some q
  b : Below WA.heap.size WA wr
section
variable {WA : World} {ls : List ByteArray} {k : Nat} {wr : World} {vl vm : Value} {el em : List Value}
theorem BIn.one {wc y : World} {v : Value} {p : Option Addr} {c N : Nat} {s : ByteArray} {o : Obj} (h : BIn WA ls k wr vl vm el em) (hb : Below wr.heap.size wr wc) (hl : LentAt wc wr.heap.size p c s) (hs : ls[k]? = some s)
    (hown : y.ownsRow WA.heap.size 28 1 v (el.length + 1) (el ++ [.slice p s.size c])) (hg : (wc.alloc o).grownBy y vl.ownBlock) (hv : v.ownBlock = vl.ownBlock ∨ v.ownBlock = some N) (hN : wc.heap.size ≤ N) :
    LentIn WA ls y v (el ++ [.slice p s.size c]) ∧ RefIn WA ls y vm em ∧ (∀ q, v.ownBlock = some q → vm.ownBlock ≠ some q) ∧ Below WA.heap.size WA y := by
  have hbA : Below wr.heap.size wr (wc.alloc o) := hb.alloc hb.size o
  have hz := h.b.size
  have hz1 := hb.size
  have hl2 := h.l.later hbA
  have hm2 := h.m.later hbA
  have hL : LentAt (wc.alloc o) wr.heap.size p c s := hl.below ((Below.refl wc.heap.size wc).alloc (Nat.le_refl _) o)
  have hG := Keeps.grown hg
  have hmlt : ∀ q, vm.ownBlock = some q → q < wr.heap.size := fun q hq => (h.m.row.lt q hq).2
  have hllo : ∀ q, some q = vl.ownBlock → WA.heap.size ≤ q := fun q hq => (h.l.row.lt q hq.symm).1
  refine ⟨hl2.push (by rw [h.ll]; exact hs) (hL.lower hz) ?_ hown hg, hm2.keeps hG ?_ (row_not hl2.row), ?_, ?_⟩
  · intro a ha u hu e
    obtain ⟨i, hi⟩ := List.getElem?_of_mem hu
    obtain ⟨s2, p2, c2, e1, e2, e3⟩ := h.l.each i u hi
    rw [e2] at e
    obtain ⟨a2, ha2, e4⟩ := own_of e
    obtain ⟨cc, hc⟩ := e3.ty ha2
    have h1 := (Array.getElem?_eq_some_iff.1 hc).1
    have h2 : wr.heap.size ≤ a.block := by
      rcases hL with ⟨e0, _⟩ | ⟨g, e0, _, h3, _⟩
      · rw [e0] at ha
        cases ha
      · rw [e0] at ha
        cases ha
        exact h3
    omega
  · intro q hq hx
    exact h.ne q hx.symm hq
  · intro q hq hq2
    rcases hv with e | e
    · exact h.ne q (e ▸ hq) hq2
    · have e2 := Option.some.inj (e.symm.trans hq)
      have := hmlt q hq2
      omega
  · exact h.b.trans ((hbA.mono hz).trans (keeps_below hG hllo (Nat.le_trans hz hbA.size)))
theorem BIn.two {y W y2 : World} {v v2 : Value} {p : Option Addr} {c c2 g N : Nat} {s : ByteArray} {o : Obj} (hll : el.length = k) (hlm : em.length = k) (h1 : LentIn WA ls y v (el ++ [.slice p s.size c])) (h2 : RefIn WA ls y vm em) (h3 : ∀ q, v.ownBlock = some q → vm.ownBlock ≠ some q) (h4 : Below WA.heap.size WA y) (hb : Below y.heap.size y W) (hl : ByR W g s) (hs : ls[k]? = some s)
    (hown : y2.ownsRow WA.heap.size 28 1 v2 (em.length + 1) (em ++ [.slice (some ⟨g, 0, none⟩) s.size c2])) (hg : (W.alloc o).grownBy y2 vm.ownBlock) (hv : v2.ownBlock = vm.ownBlock ∨ v2.ownBlock = some N) (hN : W.heap.size ≤ N) :
    BIn WA ls (k + 1) y2 v v2 (el ++ [.slice p s.size c]) (em ++ [.slice (some ⟨g, 0, none⟩) s.size c2]) := by
  have hbA : Below y.heap.size y (W.alloc o) := hb.alloc hb.size o
  have hz := h4.size
  have hz1 := hb.size
  have hl2 := h1.later hbA
  have hm2 := h2.later hbA
  have hG := Keeps.grown hg
  have hlt : ∀ q, v.ownBlock = some q → q < y.heap.size := fun q hq => (h1.row.lt q hq).2
  have hmlo : ∀ q, some q = vm.ownBlock → WA.heap.size ≤ q := fun q hq => (h2.row.lt q hq.symm).1
  have hby : ByR (W.alloc o) g s := hl.keeps (X := fun _ => False) (Keeps.of ((Below.refl W.heap.size W).alloc (Nat.le_refl _) o)) id
  refine ⟨hl2.keeps hG ?_ (row_not hm2.row), hm2.push (by rw [hlm]; exact hs) hby hown hg, by simp [hll], by simp [hlm], ?_, ?_⟩
  · intro q hq hx
    exact h3 q hq hx.symm
  · intro q hq hq2
    rcases hv with e | e
    · exact h3 q hq (e ▸ hq2)
    · have e2 := Option.some.inj (e.symm.trans hq2)
      have := hlt q hq
      omega
  · exact h4.trans ((hbA.mono hz).trans (keeps_below hG hmlo (Nat.le_trans hz hbA.size)))
end
/-- Amid the second loop: from k on all is as it was lent. -/
structure WIn (WA : World) (ls : List ByteArray) (k : Nat) (wr : World) (vl : Value) (el : List Value) : Prop where
  row : wr.ownsRow WA.heap.size 28 1 vl el.length el
  each : ∀ (i : Nat) (v : Value), k ≤ i → el[i]? = some v → ∃ s p c, ls[i]? = some s ∧ v = .slice p s.size c ∧ LentAt wr WA.heap.size p c s
  apart : ∀ (i j : Nat) (u v : Value), i ≠ j → el[i]? = some u → el[j]? = some v → ∀ k, u.ownBlock = some k → v.ownBlock ≠ some k
  b : Below WA.heap.size WA wr
theorem WIn.step {WA : World} {ls : List ByteArray} {k : Nat} {wr w' : World} {vl : Value} {el : List Value} {p : Option Addr} {c : Nat} {s : ByteArray} (h : WIn WA ls k wr vl el) (he : el[k]? = some (.slice p s.size c)) (hl : LentAt wr WA.heap.size p c s) (hk : Keeps (fun i => some i = p.map (·.block)) wr w') : WIn WA ls (k + 1) w' vl el := by
  have hX : ∀ i, some i = p.map (·.block) → ∃ a, p = some a ∧ a.block = i := by
    intro i hi
    cases p with
    | none => simp at hi
    | some a => exact ⟨a, rfl, by simpa using hi.symm⟩
  have hlo : ∀ i, some i = p.map (·.block) → WA.heap.size ≤ i := by
    intro i hi
    obtain ⟨a, ha, rfl⟩ := hX i hi
    rcases hl with ⟨e0, _⟩ | ⟨g, e0, _, h3, _⟩
    · rw [e0] at ha
      cases ha
    · rw [e0] at ha
      cases ha
      exact h3
  refine ⟨ownsRow_keepsB h.row hk (fun q hq hx => ?_), fun i v hi hv => ?_, h.apart, h.b.trans (keeps_below hk hlo h.b.size)⟩
  · obtain ⟨a, ha, rfl⟩ := hX q hx
    obtain ⟨cc, hc⟩ := hl.ty ha
    exact row_not h.row _ _ _ hc hq.symm
  · obtain ⟨s2, p2, c2, e1, e2, e3⟩ := h.each i v (by omega) hv
    refine ⟨s2, p2, c2, e1, e2, e3.keeps hk (fun a ha hx => ?_)⟩
    obtain ⟨a2, ha2, e4⟩ := hX _ hx
    have q1 : (Value.slice p s.size c).ownBlock = some a.block := by rw [ha2, ← e4]; rfl
    have q2 : v.ownBlock = some a.block := by rw [e2, ha]; rfl
    exact h.apart k i _ v (by omega) he hv a.block q1 q2
end Go.Proofs.YtkalonhalhdlaaaGreatDoor

/-
  What one call of the law's plain does: Bits; the walk.
-/
namespace Go.Proofs.YtkalonhalhdlaaaGreatDoor
open Go.RowKit

set_option maxHeartbeats 8000000 in
set_option maxRecDepth 1000000 in
theorem plain_bits {B wb M lc : Nat} {ss : Value} {x : Lw} {w : World} {o : OpV} {lp : Option Addr} {ls : List ByteArray} (h : LwAt B w wb ss x) (hsm : x.small M) (hB : B ≤ w.heap.size) (hk : o.kind = 2) (hlv : o.lv = .slice lp ls.length lc) (hT : TextsAt w lp ls) (hn : ls.length ≤ 1048576) (hsz : ∀ s ∈ ls, s.size ≤ 1048576) :
    Calls Tryz.prog 14 #[.pointer (some ⟨wb, 0, none⟩), opV o] w fun e w' => e = .returned (.bool true) ∧ Lft B wb ss (M + 1) w w' := by
  have HE : Hid (∀ w', Below w.heap.size w w' → Lft B wb ss (M + 1) w w') := fun w' hb => ⟨x, h.later hb, hsm.mono (by omega), hb.mono hB⟩
  obtain ⟨kind, a, b, d, s, lv, ⟨fa, fk, fp, fns, fnr, info⟩, fq, fc, x0, x1, x2, x3, x4, x5⟩ := o
  simp only at hlv hk
  subst hlv hk
  unfold opV
  simp only
  clear h hsm
  obtain ⟨i1, hi1, hq0, hq1, hq2⟩ := info_parts infoBytes
  have hA0 := alloc1_a w (.cells #[.int .i64 2, .int .i64 a, .int .i64 b, .int .i64 d, .string s, .slice lp ls.length lc, .int .i64 fa, .int .i64 fk, .bool fp, .int .i64 fns, .int .i64 fnr, .slice fq info.length fc, .int .i64 x0, .int .i64 x1, .int .i64 x2, .int .i64 x3, .int .i64 x4, .int .i64 x5] 34)
  have hbA := (Below.refl w.heap.size w).alloc (Nat.le_refl _) (.cells #[.int .i64 2, .int .i64 a, .int .i64 b, .int .i64 d, .string s, .slice lp ls.length lc, .int .i64 fa, .int .i64 fk, .bool fp, .int .i64 fns, .int .i64 fnr, .slice fq info.length fc, .int .i64 x0, .int .i64 x1, .int .i64 x2, .int .i64 x3, .int .i64 x4, .int .i64 x5] 34)
  have hzA := alloc1_s w (.cells #[.int .i64 2, .int .i64 a, .int .i64 b, .int .i64 d, .string s, .slice lp ls.length lc, .int .i64 fa, .int .i64 fk, .bool fp, .int .i64 fns, .int .i64 fnr, .slice fq info.length fc, .int .i64 x0, .int .i64 x1, .int .i64 x2, .int .i64 x3, .int .i64 x4, .int .i64 x5] 34)
  go_enter Tryz.func14, Tryz.ntmps14
  go_upto_region 1 with fail
  generalize hWA : w.alloc (.cells #[.int .i64 2, .int .i64 a, .int .i64 b, .int .i64 d, .string s, .slice lp ls.length lc, .int .i64 fa, .int .i64 fk, .bool fp, .int .i64 fns, .int .i64 fnr, .slice fq info.length fc, .int .i64 x0, .int .i64 x1, .int .i64 x2, .int .i64 x3, .int .i64 x4, .int .i64 x5] 34) = WA at *
  clear hWA
  have hTA : TextsAt WA lp ls := hT.below hbA (Nat.le_refl _)
  generalize hnB : w.heap.size = nB at *
  have hlA : nB < WA.heap.size := by omega
  have HEW : Hid (∀ w', Below WA.heap.size WA w' → Lft B wb ss (M + 1) w w') := fun w' hb => unhide HE w' (hbA.trans (hb.mono (by omega)))
  have HT := hide hTA
  have HA0 := hide hA0
  have y0 : WA.cell? ⟨nB, 0, none⟩ = some (.int .i64 2) := by rw [Lib.cell_of_heap hA0]; rfl
  clear HE hT hTA hbA hA0
  clear hzA
  go_wp2
  go_loopw [9, 10, 11] (fun vl vm i wr => ∃ (k : Nat) (el em : List Value), k ≤ ls.length ∧ i = .int .i64 k ∧ BIn WA ls k wr vl vm el em) (fun _ _ i _ => ls.length - (intOf i).toNat)
  case atStart => exact ⟨0, [], [], Nat.zero_le _, rfl, ⟨World.ownsRow_nil _ _ _ _, fun i v hv => by simp at hv, fun i j u v _ hu => by simp at hu⟩, ⟨World.ownsRow_nil _ _ _ _, fun i v hv => by simp at hv⟩, rfl, rfl, fun q hq => by simp [Value.ownBlock] at hq, Below.refl _ _⟩
  case round =>
    obtain ⟨k, el, em, hk, rfl, hI⟩ := hrel
    clear y0
    have hAr := (hI.b.block nB hlA).trans (unhide HA0)
    have y1 : wr.cell? ⟨nB, 1, none⟩ = some (.int .i64 a) := by rw [Lib.cell_of_heap hAr]; rfl
    have y5 : wr.cell? ⟨nB, 5, none⟩ = some (.slice lp ls.length lc) := by rw [Lib.cell_of_heap hAr]; rfl
    obtain ⟨pl, cl, e1, _⟩ := ownsRow_slice hI.l.row
    obtain ⟨pm, cm, e2, _⟩ := ownsRow_slice hI.m.row
    rw [hI.ll] at e1
    rw [hI.lm] at e2
    subst e1 e2
    by_cases hlt : k < ls.length
    · rcases (unhide HT) with e0 | ⟨tb, off, rfl, htb, hct⟩
      · subst e0
        simp at hlt
      · have ct0 := hct k hlt
        have ct := (hI.b.cell (p := ⟨tb, off + k, none⟩) htb).trans ct0
        have hsl : ls[k]? = some ls[k] := List.getElem?_eq_getElem hlt
        have hss := hsz _ (List.getElem_mem hlt)
        generalize ls[k] = s at *
        have HSL := hide hsl
        have HI := hide hI
        have HLN := hide fun (V : World) (hV : SameW V wr) => lent_same hV s a hss
        have HSZ := hide hsz
        have HCT := hide ct0
        clear hsl hI hct hsz hAr ct0
        go_upto_region 14 with fail
        go_cut [12] from 62 to 89 (fun s12 wx => ∃ p c, s12 = .slice p s.size c ∧ LentAt wx wr.heap.size p c s ∧ Below wr.heap.size wr wx)
        case first =>
          go_region_with (go_at_call 24; refine (unhide HLN wr.drew (sameW rfl rfl rfl rfl)).mono ?_; rintro e w5 ⟨p, c, rfl, hl, hb⟩)
          all_goals go_wp2_with fail
          all_goals go_meet
          all_goals exact ⟨p, c, rfl, hl, hb⟩
        case rest =>
          obtain ⟨p, c, rfl, hl, hb⟩ := hcut
          rename_i wc
          have hzc := hb.size
          have hbW := (unhide HI).b
          have hzW := hbW.size
          have hrl := ((unhide HI).l.later hb).row
          rw [(unhide HI).ll] at hrl
          have HRL := hide (World.ownsRow.alloc hrl (.cells #[.slice p s.size c] 28))
          have HLC := hide (And.intro hl hb)
          clear hrl hl hb hbW y1 y5 ct HLN
          go_wp2_with (at_builtin; refine wpList_append_own_at _ rfl _ _ 38 rfl WA.heap.size 28 i1 _ 1 24 Tryz.underlying38 hi1 hq0 hq1 hq2 rfl (by decide) _ _ _ rfl (unhide HRL) ⟨wc.heap.size, 0, none⟩ 1 1 [.slice p s.size c] rfl rfl ?c1 ?c2 ?c3 ?c4 ?c5 ?_)
          case c1 => first | exact newsL wc [.slice p s.size c] 28 | exact fun j u hj => hj
          case c2 => intro u hu; simp at hu; subst hu; rfl
          case c3 => unfold maxLen; omega
          case c4 => omega
          case c5 => first | (rw [alloc1_s]; omega) | omega
          intro v1 Y1 hown1 hg1 _ hb1
          obtain ⟨q1, q2, q3, q4⟩ := (unhide HI).one (unhide HLC).2 (unhide HLC).1 (unhide HSL) (by rw [(unhide HI).ll]; exact hown1) hg1 hb1 (by first | omega | (rw [alloc1_s]; omega))
          obtain ⟨pv, cv, rfl, _⟩ := ownsRow_slice hown1
          have ct := (q4.cell (p := ⟨tb, off + k, none⟩) htb).trans (unhide HCT)
          have hAr := (q4.block nB hlA).trans (unhide HA0)
          have y5 : Y1.cell? ⟨nB, 5, none⟩ = some (.slice (some ⟨tb, off, none⟩) ls.length lc) := by rw [Lib.cell_of_heap hAr]; rfl
          have hcv := conv_bytes Y1 s
          have hbc := bytesWorld_below Y1 s
          have hby : ByR (Lib.bytesWorld Y1 5 s) Y1.heap.size s := ⟨⟨_, _, Lib.bytesWorld_at_new Y1 _ s⟩, bytesWorld_seg2 Y1 s⟩
          have hlC := hby.lt
          have hz4 := q4.size
          generalize Lib.bytesWorld Y1 5 s = WC at *
          generalize grownCap Y1 s.size 0 5 = gc at *
          have hzC := hbc.size
          have hrm := (q2.later hbc).row
          rw [(unhide HI).lm] at hrm
          have HRM := hide (World.ownsRow.alloc hrm (.cells #[.slice (some ⟨Y1.heap.size, 0, none⟩) s.size gc] 28))
          have HQ := hide (And.intro q1 (And.intro q2 (And.intro q3 q4)))
          have HBY := hide (And.intro hbc hby)
          clear hown1 hg1 hb1 q1 q2 q3 q4 hrm hbc hby HRL HLC hAr
          go_wp2_with (at_builtin; refine wpList_append_own_at _ rfl _ _ 38 rfl WA.heap.size 28 i1 _ 1 24 Tryz.underlying38 hi1 hq0 hq1 hq2 rfl (by decide) _ _ _ rfl (unhide HRM) ⟨WC.heap.size, 0, none⟩ 1 1 [.slice (some ⟨Y1.heap.size, 0, none⟩) s.size gc] rfl rfl ?d1 ?d2 ?d3 ?d4 ?d5 ?_)
          case d1 => first | exact newsL WC [.slice (some ⟨Y1.heap.size, 0, none⟩) s.size gc] 28 | exact fun j u hj => hj
          case d2 => intro u hu; simp at hu; subst hu; rfl
          case d3 => unfold maxLen; omega
          case d4 => omega
          case d5 => first | (rw [alloc1_s]; omega) | omega
          intro v2 Y2 hown2 hg2 _ hb2
          obtain ⟨q1, q2, q3, q4⟩ := unhide HQ
          have q := BIn.two (unhide HI).ll (unhide HI).lm q1 q2 q3 q4 (unhide HBY).1 (unhide HBY).2 (unhide HSL) (by rw [(unhide HI).lm]; exact hown2) hg2 hb2 (by first | omega | (rw [alloc1_s]; omega))
          obtain ⟨pw, cw, rfl, _⟩ := ownsRow_slice hown2
          have HEND := hide q
          clear q q1 q2 q3 q4 hown2 hg2 hb2 HQ HBY HRM HI y5 ct hcv
          go_wp2
          go_roundw
          case rel => exact ⟨k + 1, _, _, hlt, by go_num, unhide HEND⟩
          case measure => simp [intOf]; omega
    · have hkt : k = ls.length := by omega
      subst hkt
      have hll := hI.ll
      have KB := hide (bits_in hI.l hI.ll hn hsz)
      have HI := hide hI
      clear hI hAr y1
      go_wp2_with fail
      refine (unhide KB).mono ?_
      rintro e W1 ⟨rfl, hb1⟩
      have KR := hide (refBits_in ((unhide HI).m.later hb1) (unhide HI).lm hn hsz)
      clear KB y5
      go_wp2_with fail
      refine (unhide KR).mono ?_
      rintro e W2 ⟨rfl, hb2⟩
      have hb02 : Below wr.heap.size wr W2 := hb1.trans (hb2.mono hb1.size)
      have HW0 : Hid (WIn WA ls 0 W2 (.slice pl ls.length cl) el) := by
        have q := (unhide HI).l.later hb02
        exact ⟨q.row, fun i v _ hv => q.each i v hv, q.apart, (unhide HI).b.trans (hb02.mono (unhide HI).b.size)⟩
      clear KR hb1 hb2 hb02 HI
      generalize bitsS ls = bS
      generalize bitsE ls = bE
      go_wp2
      go_loopw [17, 18] (fun a i wq => a = .bool true ∧ ∃ k : Nat, k ≤ ls.length ∧ i = .int .i64 k ∧ WIn WA ls k wq (.slice pl ls.length cl) el) (fun _ i _ => ls.length - (intOf i).toNat)
      case atStart => exact ⟨rfl, 0, Nat.zero_le _, rfl, unhide HW0⟩
      case round =>
        obtain ⟨rfl, k2, hk2, rfl, hW⟩ := hrel
        clear HW0
        have hAr := (hW.b.block nB hlA).trans (unhide HA0)
        have y5 : wr.cell? ⟨nB, 5, none⟩ = some (.slice lp ls.length lc) := by rw [Lib.cell_of_heap hAr]; rfl
        by_cases hlt2 : k2 < ls.length
        · rcases (unhide HT) with e0 | ⟨tb, off, rfl, htb, hct⟩
          · subst e0
            simp at hlt2
          · have ct := (hW.b.cell (p := ⟨tb, off + k2, none⟩) htb).trans (hct k2 hlt2)
            have hsl : ls[k2]? = some ls[k2] := List.getElem?_eq_getElem hlt2
            have hss := hsz _ (List.getElem_mem hlt2)
            obtain ⟨v, hv⟩ : ∃ v, el[k2]? = some v := ⟨_, List.getElem?_eq_getElem (by omega)⟩
            obtain ⟨s2, p, c, e1, rfl, hL⟩ := hW.each k2 v (Nat.le_refl _) hv
            rw [hsl] at e1
            have e1 := Option.some.inj e1
            subst e1
            generalize ls[k2] = s at *
            obtain ⟨g, hgp, hgv, _, hcell⟩ := row_some hW.row (by omega)
            have cE := hcell k2 _ hv
            simp only [Value.slice.injEq] at hgv
            obtain ⟨rfl, hle, rfl⟩ := hgv
            clear hle e1
            rw [Nat.zero_add] at cE
            have HWH := hide fun (V : World) (hV : SameW V wr) => whole_same hV hL hss
            have HSTEP := hide fun (w' : World) (hk : Keeps (fun i => some i = p.map (·.block)) wr w') => hW.step hv hL hk
            clear hW hct hAr hcell hsl hv hL
            go_upto_region 23 with fail
            go_cut [19] from 108 to 128 (fun s19 wx => s19 = .bool true ∧ Keeps (fun i => some i = p.map (·.block)) wr wx)
            case first =>
              go_region_with (go_at_call 26; refine (unhide HWH wr.drew (sameW rfl rfl rfl rfl)).mono ?_; rintro e w5 ⟨rfl, hk5⟩)
              all_goals go_wp2_with fail
              all_goals go_meet
              all_goals exact ⟨rfl, hk5⟩
            case rest =>
              obtain ⟨rfl, hk5⟩ := hcut
              rename_i wc
              have HEND := hide (unhide HSTEP wc hk5)
              clear HSTEP HWH hk5 cE ct y5
              go_wp2
              go_roundw
              case rel => exact ⟨rfl, k2 + 1, hlt2, by go_num, unhide HEND⟩
              case measure => simp [intOf]; omega
        · have hkt : k2 = ls.length := by omega
          subst hkt
          have HEND := hide (unhide HEW wr hW.b)
          clear hW hAr
          go_wp2
          go_ret
          exact ⟨rfl, unhide HEND⟩
end Go.Proofs.YtkalonhalhdlaaaGreatDoor

/-
  What one call of the law's heard does: Feed of a text.
-/
namespace Go.Proofs.YtkalonhalhdlaaaGreatDoor
open Go.RowKit

set_option maxHeartbeats 8000000 in
set_option maxRecDepth 1000000 in
theorem heard_feed {B wb M i : Nat} {ss : Value} {x : Lw} {w : World} {o : OpV} (h : LwAt B w wb ss x) (hsm : x.small M) (hM : M + o.s.size ≤ 200000000000) (hB : B ≤ w.heap.size) (hi : i < x.es.length) (hk : o.kind = 4) (hlv : ∃ lp ln lc, o.lv = .slice lp ln lc) :
    Calls Tryz.prog 15 #[.pointer (some ⟨wb, 0, none⟩), earV x.es[i], opV o] w fun e w' => e = .returned (.bool true) ∧ Lfs x B wb ss (M + o.s.size + 1) w w' := by
  have HF : Hid (∀ V, Below w.heap.size w V → Calls Tryz.prog 31 #[.pointer (some ⟨wb, 0, none⟩), earV x.es[i], .string o.s] V fun e w' => e = .returned (.bool true) ∧ Lfs x B wb ss (M + o.s.size + 1) w w') := by
    intro V hV
    refine (feeds_any (h.later hV) hsm hM (Nat.le_trans hB hV.size) hi).mono ?_
    rintro e w' ⟨rfl, hL⟩
    exact ⟨rfl, hL.behind hV hB⟩
  unfold earV at HF ⊢
  generalize x.es[i].hb = hb at *
  generalize x.es[i].rb = rb at *
  obtain ⟨lp, ln, lc, hlv⟩ := hlv
  obtain ⟨kind, a, b, d, s, lv, ⟨fa, fk, fp, fns, fnr, info⟩, fq, fc, x0, x1, x2, x3, x4, x5⟩ := o
  simp only at hlv hk hM HF ⊢
  subst hlv hk
  unfold opV
  simp only
  clear h hsm
  have hE0 := alloc1_a w (.cells #[.pointer (some ⟨hb, 0, none⟩), .pointer (some ⟨rb, 0, none⟩)] 51)
  have hbE := (Below.refl w.heap.size w).alloc (Nat.le_refl _) (.cells #[.pointer (some ⟨hb, 0, none⟩), .pointer (some ⟨rb, 0, none⟩)] 51)
  have hzE := alloc1_s w (.cells #[.pointer (some ⟨hb, 0, none⟩), .pointer (some ⟨rb, 0, none⟩)] 51)
  have hA0 := alloc1_a (w.alloc (.cells #[.pointer (some ⟨hb, 0, none⟩), .pointer (some ⟨rb, 0, none⟩)] 51)) (.cells #[.int .i64 4, .int .i64 a, .int .i64 b, .int .i64 d, .string s, .slice lp ln lc, .int .i64 fa, .int .i64 fk, .bool fp, .int .i64 fns, .int .i64 fnr, .slice fq info.length fc, .int .i64 x0, .int .i64 x1, .int .i64 x2, .int .i64 x3, .int .i64 x4, .int .i64 x5] 34)
  have hbA := hbE.alloc (by rw [hzE]; omega) (.cells #[.int .i64 4, .int .i64 a, .int .i64 b, .int .i64 d, .string s, .slice lp ln lc, .int .i64 fa, .int .i64 fk, .bool fp, .int .i64 fns, .int .i64 fnr, .slice fq info.length fc, .int .i64 x0, .int .i64 x1, .int .i64 x2, .int .i64 x3, .int .i64 x4, .int .i64 x5] 34)
  have hE1 := ((Below.refl (w.alloc (.cells #[.pointer (some ⟨hb, 0, none⟩), .pointer (some ⟨rb, 0, none⟩)] 51)).heap.size _).alloc (Nat.le_refl _) (.cells #[.int .i64 4, .int .i64 a, .int .i64 b, .int .i64 d, .string s, .slice lp ln lc, .int .i64 fa, .int .i64 fk, .bool fp, .int .i64 fns, .int .i64 fnr, .slice fq info.length fc, .int .i64 x0, .int .i64 x1, .int .i64 x2, .int .i64 x3, .int .i64 x4, .int .i64 x5] 34)).block w.heap.size (by rw [hzE]; omega)
  rw [hE0] at hE1
  rw [hzE] at hA0
  go_enter Tryz.func15, Tryz.ntmps15
  go_upto_region 1 with fail
  generalize hWA : (w.alloc (.cells #[.pointer (some ⟨hb, 0, none⟩), .pointer (some ⟨rb, 0, none⟩)] 51)).alloc (.cells #[.int .i64 4, .int .i64 a, .int .i64 b, .int .i64 d, .string s, .slice lp ln lc, .int .i64 fa, .int .i64 fk, .bool fp, .int .i64 fns, .int .i64 fnr, .slice fq info.length fc, .int .i64 x0, .int .i64 x1, .int .i64 x2, .int .i64 x3, .int .i64 x4, .int .i64 x5] 34) = WA at *
  clear hWA hE0 hbE hzE
  generalize hnB : w.heap.size = nB at *
  have c0 : WA.cell? ⟨nB, 0, none⟩ = some (.pointer (some ⟨hb, 0, none⟩)) := by rw [Lib.cell_of_heap hE1]; rfl
  have c1 : WA.cell? ⟨nB, 1, none⟩ = some (.pointer (some ⟨rb, 0, none⟩)) := by rw [Lib.cell_of_heap hE1]; rfl
  have y0 : WA.cell? ⟨nB + 1, 0, none⟩ = some (.int .i64 4) := by rw [Lib.cell_of_heap hA0]; rfl
  have y4 : WA.cell? ⟨nB + 1, 4, none⟩ = some (.string s) := by rw [Lib.cell_of_heap hA0]; rfl
  have KF := hide (unhide HF WA hbA)
  clear HF hA0 hE1 hbA
  go_wp2_with fail
  refine (unhide KF).mono ?_
  rintro e W1 ⟨rfl, hL⟩
  have HL := hide hL
  clear hL KF
  go_wp2
  go_ret
  exact ⟨rfl, unhide HL⟩
end Go.Proofs.YtkalonhalhdlaaaGreatDoor

/-
  What one call of the law's heard does: what Bits gives, from a bit on.
-/
namespace Go.Proofs.YtkalonhalhdlaaaGreatDoor
open Go.RowKit

theorem ref_step {WA : World} {ls : List ByteArray} {k : Nat} {vm : Value} {em : List Value} {y W y2 : World} {v2 : Value} {c2 g : Nat} {s : ByteArray} {o : Obj} (hlm : em.length = k) (h2 : RefIn WA ls y vm em) (h4 : Below WA.heap.size WA y) (hb : Below y.heap.size y W) (hl : ByR W g s) (hs : ls[k]? = some s)
    (hown : y2.ownsRow WA.heap.size 28 1 v2 (em.length + 1) (em ++ [.slice (some ⟨g, 0, none⟩) s.size c2])) (hg : (W.alloc o).grownBy y2 vm.ownBlock) :
    RefIn WA ls y2 v2 (em ++ [.slice (some ⟨g, 0, none⟩) s.size c2]) ∧ Below WA.heap.size WA y2 := by
  have hbA : Below y.heap.size y (W.alloc o) := hb.alloc hb.size o
  have hz := h4.size
  have hm2 := h2.later hbA
  have hG := Keeps.grown hg
  have hmlo : ∀ q, some q = vm.ownBlock → WA.heap.size ≤ q := fun q hq => (h2.row.lt q hq.symm).1
  have hby : ByR (W.alloc o) g s := hl.keeps (X := fun _ => False) (Keeps.of ((Below.refl W.heap.size W).alloc (Nat.le_refl _) o)) id
  exact ⟨hm2.push (by rw [hlm]; exact hs) hby hown hg, h4.trans ((hbA.mono hz).trans (keeps_below hG hmlo (Nat.le_trans hz hbA.size)))⟩

set_option maxHeartbeats 8000000 in
set_option maxRecDepth 1000000 in
theorem heard_line {B wb M i lc : Nat} {ss : Value} {x : Lw} {w : World} {o : OpV} {lp : Option Addr} {ls : List ByteArray} (h : LwAt B w wb ss x) (hsm : x.small M) (hM : M + (1064 * ls.length + 8) ≤ 200000000000) (hB : B ≤ w.heap.size) (hi : i < x.es.length) (hk : o.kind = 5) (hlv : o.lv = .slice lp ls.length lc) (hT : TextsAt w lp ls) (hn : ls.length ≤ 1048576) (hsz : ∀ s ∈ ls, s.size ≤ 1048576) (hb64 : -9223372036854775808 ≤ o.b ∧ o.b ≤ 9223372036854775807) (hd64 : -9223372036854775808 ≤ o.d ∧ o.d ≤ 9223372036854775807) :
    Calls Tryz.prog 15 #[.pointer (some ⟨wb, 0, none⟩), earV x.es[i], opV o] w fun e w' => e = .returned (.bool true) ∧ Lfs x B wb ss (M + (1064 * ls.length + 8) + 1) w w' := by
  have HF : Hid (∀ (V : World) (t : ByteArray), Below w.heap.size w V → t.size ≤ 1064 * ls.length + 8 → Calls Tryz.prog 31 #[.pointer (some ⟨wb, 0, none⟩), earV x.es[i], .string t] V fun e w' => e = .returned (.bool true) ∧ Lfs x B wb ss (M + (1064 * ls.length + 8) + 1) w w') := by
    intro V t hV ht
    refine (feeds_any (h.later hV) hsm (by omega) (Nat.le_trans hB hV.size) hi).mono ?_
    rintro e w' ⟨rfl, x', h1, h2, h3⟩
    exact ⟨rfl, Lfs.behind ⟨x', h1, h2.mono (by omega), h3⟩ hV hB⟩
  unfold earV at HF ⊢
  generalize x.es[i].hb = hb at *
  generalize x.es[i].rb = rb at *
  obtain ⟨kind, a, b, d, s, lv, ⟨fa, fk, fp, fns, fnr, info⟩, fq, fc, x0, x1, x2, x3, x4, x5⟩ := o
  simp only at hlv hk hb64 hd64 HF ⊢
  subst hlv hk
  unfold opV
  simp only
  clear h hsm
  have hE0 := alloc1_a w (.cells #[.pointer (some ⟨hb, 0, none⟩), .pointer (some ⟨rb, 0, none⟩)] 51)
  have hbE := (Below.refl w.heap.size w).alloc (Nat.le_refl _) (.cells #[.pointer (some ⟨hb, 0, none⟩), .pointer (some ⟨rb, 0, none⟩)] 51)
  have hzE := alloc1_s w (.cells #[.pointer (some ⟨hb, 0, none⟩), .pointer (some ⟨rb, 0, none⟩)] 51)
  have hA0 := alloc1_a (w.alloc (.cells #[.pointer (some ⟨hb, 0, none⟩), .pointer (some ⟨rb, 0, none⟩)] 51)) (.cells #[.int .i64 5, .int .i64 a, .int .i64 b, .int .i64 d, .string s, .slice lp ls.length lc, .int .i64 fa, .int .i64 fk, .bool fp, .int .i64 fns, .int .i64 fnr, .slice fq info.length fc, .int .i64 x0, .int .i64 x1, .int .i64 x2, .int .i64 x3, .int .i64 x4, .int .i64 x5] 34)
  have hbA := hbE.alloc (by rw [hzE]; omega) (.cells #[.int .i64 5, .int .i64 a, .int .i64 b, .int .i64 d, .string s, .slice lp ls.length lc, .int .i64 fa, .int .i64 fk, .bool fp, .int .i64 fns, .int .i64 fnr, .slice fq info.length fc, .int .i64 x0, .int .i64 x1, .int .i64 x2, .int .i64 x3, .int .i64 x4, .int .i64 x5] 34)
  have hE1 := ((Below.refl (w.alloc (.cells #[.pointer (some ⟨hb, 0, none⟩), .pointer (some ⟨rb, 0, none⟩)] 51)).heap.size _).alloc (Nat.le_refl _) (.cells #[.int .i64 5, .int .i64 a, .int .i64 b, .int .i64 d, .string s, .slice lp ls.length lc, .int .i64 fa, .int .i64 fk, .bool fp, .int .i64 fns, .int .i64 fnr, .slice fq info.length fc, .int .i64 x0, .int .i64 x1, .int .i64 x2, .int .i64 x3, .int .i64 x4, .int .i64 x5] 34)).block w.heap.size (by rw [hzE]; omega)
  rw [hE0] at hE1
  rw [hzE] at hA0
  go_enter Tryz.func15, Tryz.ntmps15
  go_upto_region 1 with fail
  generalize hWA : (w.alloc (.cells #[.pointer (some ⟨hb, 0, none⟩), .pointer (some ⟨rb, 0, none⟩)] 51)).alloc (.cells #[.int .i64 5, .int .i64 a, .int .i64 b, .int .i64 d, .string s, .slice lp ls.length lc, .int .i64 fa, .int .i64 fk, .bool fp, .int .i64 fns, .int .i64 fnr, .slice fq info.length fc, .int .i64 x0, .int .i64 x1, .int .i64 x2, .int .i64 x3, .int .i64 x4, .int .i64 x5] 34) = WA at *
  clear hWA hE0 hbE hzE
  generalize hnB : w.heap.size = nB at *
  have c0 : WA.cell? ⟨nB, 0, none⟩ = some (.pointer (some ⟨hb, 0, none⟩)) := by rw [Lib.cell_of_heap hE1]; rfl
  have c1 : WA.cell? ⟨nB, 1, none⟩ = some (.pointer (some ⟨rb, 0, none⟩)) := by rw [Lib.cell_of_heap hE1]; rfl
  have y0 : WA.cell? ⟨nB + 1, 0, none⟩ = some (.int .i64 5) := by rw [Lib.cell_of_heap hA0]; rfl
  have hTA : TextsAt WA lp ls := hT.below hbA (by omega)
  have hlA : nB + 1 < WA.heap.size := (Array.getElem?_eq_some_iff.1 hA0).1
  obtain ⟨i1, hi1, hq0, hq1, hq2⟩ := info_parts infoBytes
  have HBA := hide hbA
  have HT := hide hTA
  have HA0 := hide hA0
  have HE1 := hide hE1
  clear hT hTA hbA hA0 hE1 c0 c1
  go_wp2
  go_loopw [7, 8] (fun vm i wr => ∃ (k : Nat) (em : List Value), k ≤ ls.length ∧ i = .int .i64 k ∧ em.length = k ∧ RefIn WA ls wr vm em ∧ Below WA.heap.size WA wr) (fun _ i _ => ls.length - (intOf i).toNat)
  case atStart => exact ⟨0, [], Nat.zero_le _, rfl, rfl, ⟨World.ownsRow_nil _ _ _ _, fun i v hv => by simp at hv⟩, Below.refl _ _⟩
  case round =>
    obtain ⟨k, em, hk, rfl, hlm, hI, hbr⟩ := hrel
    clear y0
    have hAr := (hbr.block (nB + 1) hlA).trans (unhide HA0)
    have y5 : wr.cell? ⟨nB + 1, 5, none⟩ = some (.slice lp ls.length lc) := by rw [Lib.cell_of_heap hAr]; rfl
    obtain ⟨pm, cm, e2, _⟩ := ownsRow_slice hI.row
    rw [hlm] at e2
    subst e2
    by_cases hlt : k < ls.length
    · rcases (unhide HT) with e0 | ⟨tb, off, rfl, htb, hct⟩
      · subst e0
        simp at hlt
      · have ct := (hbr.cell (p := ⟨tb, off + k, none⟩) htb).trans (hct k hlt)
        have hsl : ls[k]? = some ls[k] := List.getElem?_eq_getElem hlt
        have hss := hsz _ (List.getElem_mem hlt)
        generalize ls[k] = s at *
        have hcv := conv_bytes wr s
        have hbc := bytesWorld_below wr s
        have hby : ByR (Lib.bytesWorld wr 5 s) wr.heap.size s := ⟨⟨_, _, Lib.bytesWorld_at_new wr _ s⟩, bytesWorld_seg2 wr s⟩
        have hlC := hby.lt
        have hz4 := hbr.size
        generalize Lib.bytesWorld wr 5 s = WC at *
        generalize grownCap wr s.size 0 5 = gc at *
        have hzC := hbc.size
        have hrm := (hI.later hbc).row
        rw [hlm] at hrm
        have HRM := hide (World.ownsRow.alloc hrm (.cells #[.slice (some ⟨wr.heap.size, 0, none⟩) s.size gc] 28))
        have HQ := hide (And.intro hI (And.intro hbr (And.intro hbc (And.intro hby (And.intro hsl hlm)))))
        clear hrm hbc hby hAr hI hbr hsl hct hlm hsz
        go_wp2_with (at_builtin; refine wpList_append_own_at _ rfl _ _ 38 rfl WA.heap.size 28 i1 _ 1 24 Tryz.underlying38 hi1 hq0 hq1 hq2 rfl (by decide) _ _ _ rfl (unhide HRM) ⟨WC.heap.size, 0, none⟩ 1 1 [.slice (some ⟨wr.heap.size, 0, none⟩) s.size gc] rfl rfl ?d1 ?d2 ?d3 ?d4 ?d5 ?_)
        case d1 => first | exact newsL WC [.slice (some ⟨wr.heap.size, 0, none⟩) s.size gc] 28 | exact fun j u hj => hj
        case d2 => intro u hu; simp at hu; subst hu; rfl
        case d3 => unfold maxLen; omega
        case d4 => omega
        case d5 => first | (rw [alloc1_s]; omega) | omega
        intro v2 Y2 hown2 hg2 _ hb2
        obtain ⟨q1, q2, q3, q4, q5, q6⟩ := unhide HQ
        have q := ref_step q6 q1 q2 q3 q4 q5 (by rw [q6]; exact hown2) hg2
        obtain ⟨pw, cw, rfl, _⟩ := ownsRow_slice hown2
        have HEND := hide (And.intro (by simp [q6] : (em ++ [Value.slice (some ⟨wr.heap.size, 0, none⟩) s.size gc]).length = k + 1) q)
        clear q q1 q2 q3 q4 q5 q6 hown2 hg2 hb2 HQ HRM y5 ct hcv
        go_wp2
        go_roundw
        case rel => exact ⟨k + 1, _, hlt, by go_num, (unhide HEND).1, (unhide HEND).2.1, (unhide HEND).2.2⟩
        case measure => simp [intOf]; omega
    · have hkt : k = ls.length := by omega
      subst hkt
      have KR := hide (refBits_in hI hlm hn hsz)
      have HI := hide hbr
      clear hI hlm hbr hAr
      go_wp2_with fail
      refine (unhide KR).mono ?_
      rintro e W1 ⟨rfl, hb1⟩
      have hzS := bitsS_size ls
      generalize bitsS ls = bS at *
      generalize bitsE ls = bE at *
      have hb2 : Below WA.heap.size WA W1 := (unhide HI).trans (hb1.mono (unhide HI).size)
      have hAr := (hb2.block (nB + 1) hlA).trans (unhide HA0)
      have hEr := (hb2.block nB (by omega)).trans (unhide HE1)
      have c0 : W1.cell? ⟨nB, 0, none⟩ = some (.pointer (some ⟨hb, 0, none⟩)) := by rw [Lib.cell_of_heap hEr]; rfl
      have c1 : W1.cell? ⟨nB, 1, none⟩ = some (.pointer (some ⟨rb, 0, none⟩)) := by rw [Lib.cell_of_heap hEr]; rfl
      have z2 : W1.cell? ⟨nB + 1, 2, none⟩ = some (.int .i64 b) := by rw [Lib.cell_of_heap hAr]; rfl
      have z3 : W1.cell? ⟨nB + 1, 3, none⟩ = some (.int .i64 d) := by rw [Lib.cell_of_heap hAr]; rfl
      have KP := hide (lawPick_any b ((bS.size : Int) + 1) W1 hb64 (by omega) (by omega))
      have HB2 := hide hb2
      clear KR hb1 hb2 HI hAr hEr y5
      go_wp2_with fail
      refine (unhide KP).mono ?_
      rintro e W2 ⟨⟨r, hr, rfl⟩, rfl⟩
      have KQ := hide (lawPick_any d ((bS.size : Int) - (r : Int) + 1) W2 hd64 (by omega) (by omega))
      clear KP
      go_wp2_with fail
      refine (unhide KQ).mono ?_
      rintro e W3 ⟨⟨r2, hr2, rfl⟩, rfl⟩
      clear KQ
      go_upto_region 11 with fail
      have hbF : Below nB w W3.drew := (unhide HBA).trans (((unhide HB2).drew).mono (by omega))
      have HFF := hide fun (t : ByteArray) (ht : t.size ≤ 1064 * ls.length + 8) => unhide HF W3.drew t hbF ht
      obtain ⟨n2, hn2⟩ : ∃ n2 : Nat, (bS.size : Int) - (r2 : Int) = n2 := ⟨bS.size - r2, by omega⟩
      have hn3 : r ≤ n2 := by omega
      have hn4 : n2 ≤ bS.size := by omega
      have hes : (bS.extract r n2).size ≤ 1064 * ls.length + 8 := by simp; omega
      rw [hn2]
      clear hbF HF HBA HB2 hr hr2 hn2
      go_region_with (go_at_call 31; refine (unhide HFF _ hes).mono ?_; rintro e w5 ⟨rfl, hL⟩)
      all_goals go_wp2
      all_goals go_ret
      all_goals exact ⟨rfl, hL⟩
end Go.Proofs.YtkalonhalhdlaaaGreatDoor
