/-
  What one call of pick and of lines does.
-/
import Derived.Test.YtkalonhalhdlaaaLFeed2
import Derived.Test.YtkalonhalhdlaaaLWire
import Derived.Test.YtkalonhalhdlaaaLWord
namespace Go.Proofs.Ytkalonhalhdlaaa
open Go.RowKit

theorem pick_any (c n : Int) (w : World) (hc : -9223372036854775808 ≤ c ∧ c ≤ 9223372036854775807) (hn : 0 < n) (hn2 : n ≤ 9223372036854775807) :
    Calls Try.prog 9 #[.int .i64 c, .int .i64 n] w fun e w' => (∃ r : Nat, (r : Int) < n ∧ e = .returned (.int .i64 r)) ∧ w' = w := by
  by_cases h0 : c < 0
  · go_enter Try.func9, Try.ntmps9
    go_wp2
    go_ret
    have h1 : (-(c + 1)).tmod n = (-(c + 1)) % n := Int.tmod_eq_emod_of_nonneg (by omega)
    have h2 : -((c + 1).tmod n) = (-(c + 1)) % n := by rw [← h1, Int.neg_tmod]
    have h3 := Int.emod_nonneg (-(c + 1)) (show n ≠ 0 by omega)
    have h4 := Int.emod_lt_of_pos (-(c + 1)) hn
    refine ⟨⟨((-(c + 1)) % n).toNat, by omega, ?_⟩, rfl⟩
    show Ending.returned (.int .i64 (-((c + 1).tmod n))) = _
    rw [h2]
    exact ret_int (by omega)
  · go_enter Try.func9, Try.ntmps9
    go_wp2
    go_ret
    have h3 := Int.emod_nonneg c (show n ≠ 0 by omega)
    have h4 := Int.emod_lt_of_pos c hn
    refine ⟨⟨(c % n).toNat, by omega, ?_⟩, rfl⟩
    show Ending.returned (.int .i64 (c % n)) = _
    exact ret_int (by omega)

theorem Bytes.isIn {w : World} {base : Nat} {f : Nat × List UInt8} {p : Option Addr} {cap : Nat} (h : Bytes w base f p cap) : Lib.BytesIn w p f.2.length (nums f.2) := by
  rcases h.2 with ⟨_, h0⟩ | ⟨g, cp, cur, hv, _, hg, _, _, _, ht⟩
  · rw [h0]; exact Lib.BytesIn.nil _ _ _
  · simp only [Value.slice.injEq] at hv
    obtain ⟨rfl, _, _⟩ := hv
    intro hn
    refine ⟨g, 0, rfl, fun i hi => ?_⟩
    rw [nums_getD _ _ hi, Lib.cell_of_heap hg]
    have h1 := congrArg (fun l => l[i]?) ht
    simp only [Nat.mul_one, List.getElem?_take_of_lt hi] at h1
    rw [Nat.zero_add]
    have : cur[i]? = cur.toList[i]? := by simp
    rw [this, h1]
    simp [Lib.byteCells, hi]

theorem bytes_string {w : World} {base : Nat} {f : Nat × List UInt8} {p : Option Addr} {cap : Nat} (h : Bytes w base f p cap) :
    (convert 28 9 (.slice p f.2.length cap)).run Try.prog w = .ok (.string ⟨f.2.toArray⟩) w := by
  have := h.isIn.convert (nums_length _) cap 28 5 9 Try.underlying28 Try.underlying5 Try.underlying9
  rw [this]
  have e : strOfNums (nums f.2) = ⟨(Lib.bytesOf (nums f.2)).toArray⟩ := rfl
  rw [e, bytesOf_nums]

/-- What was told, cell by cell. -/
theorem ToldAt.get {w : World} {base : Nat} {v : Value} {t : Told} (h : ToldAt w base v t) (i : Nat) (hi : i < t.length) :
    ∃ g cp, v = .slice (some ⟨g, 0, none⟩) t.length cp ∧ w.cell? ⟨g, i * 2, none⟩ = some (.int .i64 (t[i].1.1 : Nat)) ∧ w.cell? ⟨g, i * 2 + 1, none⟩ = some (.slice t[i].2.1 t[i].1.2.length t[i].2.2) ∧ Bytes w base t[i].1 t[i].2.1 t[i].2.2 := by
  rcases h.1.2 with ⟨_, h0⟩ | ⟨g, cp, cur, hv, _, hg, _, _, _, ht⟩
  · omega
  · have key : ∀ (t : Told) (i : Nat) (hi : i < t.length), (toldCells t)[i * 2]? = some (.int .i64 (t[i].1.1 : Nat)) ∧ (toldCells t)[i * 2 + 1]? = some (.slice t[i].2.1 t[i].1.2.length t[i].2.2) := by
      intro t
      induction t with
      | nil => intro i hi; simp at hi
      | cons x r ih =>
        intro i hi
        cases i with
        | zero => simp [toldCells]
        | succ i =>
          have := ih i (by simpa using hi)
          have e1 : (i + 1) * 2 = i * 2 + 1 + 1 := by omega
          rw [e1]
          simpa [toldCells] using this
    obtain ⟨k1, k2⟩ := key t i hi
    have cell : ∀ j, j < t.length * 2 → w.cell? ⟨g, j, none⟩ = (toldCells t)[j]? := by
      intro j hj
      rw [Lib.cell_of_heap hg]
      have h1 := congrArg (fun l => l[j]?) ht
      simp only [List.getElem?_take_of_lt hj] at h1
      rw [← h1]
      simp
    exact ⟨g, cp, hv, by rw [cell _ (by omega)]; exact k1, by rw [cell _ (by omega)]; exact k2, h.2 _ (List.getElem_mem hi)⟩

theorem bytes_seg2 (w : World) (a c : UInt8) : Seg (w.alloc (.cells #[.int .u8 (a.toNat : Int), .int .u8 (c.toNat : Int)] 5)) w.heap.size 0 [a, c] := by
  intro i hi
  simp at hi
  have h2 : i = 0 ∨ i = 1 := by omega
  rcases h2 with rfl | rfl <;> simp

set_option maxHeartbeats 1000000 in
set_option maxRecDepth 100000 in
theorem lines_any (w : World) :
    Calls Try.prog 5 #[] w fun e w' => e = .returned (.bool true) ∧ Below w.heap.size w w' := by
  have hF : FramesAt ((w.alloc (.cells #[.int .u8 3, .int .u8 63] 5)).alloc (.cells #[.slice (some ⟨w.heap.size, 0, none⟩) 2 2] 28)) (w.heap.size + 1) 0 [[3, 63]] := by
    intro i hi
    simp at hi
    subst hi
    refine ⟨w.heap.size, 0, 2, by simp, by simp; omega, ?_⟩
    have := (bytes_seg2 w 3 63).below (B := (w.alloc (.cells #[.int .u8 3, .int .u8 63] 5)).heap.size) ((Below.refl _ _).alloc (Nat.le_refl _) (.cells #[.slice (some ⟨w.heap.size, 0, none⟩) 2 2] 28)) (by simp)
    exact this
  have hbits := bits_some (w.heap.size + 1) 0 1 [[3, 63]] _ (by simp) (by simp) hF (by simp)
  have HB := hide hbits
  clear hbits hF
  have hfd := wire_told fresh ⟨false, 0, []⟩ sim_fresh (Or.inr rfl) [[3, 63]] (by simp)
  have HFD := hide hfd
  clear hfd
  go_enter Try.func5, Try.ntmps5
  go_wp2_with fail
  refine (unhide HB).mono ?_
  rintro e w1 ⟨rfl, hb1⟩
  clear HB
  go_wp2_with fail
  refine (newHunter_any _).mono ?_
  rintro e w2 ⟨rfl, kh, hb2⟩
  go_wp2_with fail
  refine (feed_txt w1.heap.size fresh (wireL [[3, 63]]) _ kh fresh_ok (by have := framesL_length [[3, 63]] (by simp); simp [wireL, flagL] at this ⊢; omega)).mono ?_
  rintro e w3 ⟨v, t, rfl, ht, hT, _, hK3⟩
  rw [unhide HFD] at ht
  obtain ⟨x, rfl⟩ : ∃ x, t = [x] := by
    have := congrArg List.length ht
    simp at this
    exact List.length_eq_one_iff.1 this
  simp at ht
  obtain ⟨g, cp, hv, c0, c1, hby⟩ := hT.get 0 (by simp)
  simp only [List.getElem_cons_zero] at c0 c1 hby
  have hcv := bytes_string hby
  obtain ⟨f, p, cap⟩ := x
  simp only at ht c0 c1 hcv
  subst ht
  simp only [List.length_cons, List.length_nil, Nat.zero_mul, Nat.zero_add] at hv c0 c1 hcv
  have hbl : Below w.heap.size w w3 := by
    have hA : Below w.heap.size w w1 := (((Below.refl _ w).alloc (Nat.le_refl _) _).alloc (by simp) _).trans (hb1.mono (by simp; omega))
    have hB : Below w.heap.size w w2 := hA.trans (hb2.mono hA.size)
    refine ⟨hK3.os.trans hB.os, hK3.tape.trans hB.tape, hK3.output.trans hB.output, Nat.le_trans hB.size hK3.size, fun k hk => ?_⟩
    rw [hK3.block k (Nat.lt_of_lt_of_le hk hB.size) (by have := hA.size; simp at hb1; omega), hB.block k hk]
  clear hb1 hb2 hT hby hK3 kh HFD
  subst hv
  go_wp2
  go_ret
  exact ⟨rfl, hbl⟩
end Go.Proofs.Ytkalonhalhdlaaa
