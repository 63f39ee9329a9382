/-
  What one call of Lines does.
-/
import Derived.Test.YtkalonhalhdlaaaGreatDoorVStep
import Derived.Test.YtkalonhalhdlaaaGreatDoorVStep5
import Derived.Test.YtkalonhalhdlaaaGreatDoorVStep6
import Derived.Test.YtkalonhalhdlaaaGreatDoorVOpen
import Derived.Test.YtkalonhalhdlaaaGreatDoorRPlays
namespace Go.Proofs.YtkalonhalhdlaaaGreatDoor
open Go.RowKit

/-- What a step on a line is: its texts, of size at most n. -/
structure OpL (w : World) (n : Nat) (o : OpV) : Prop where
  a : -9223372036854775808 ≤ o.a ∧ o.a ≤ 9223372036854775807
  b : -9223372036854775808 ≤ o.b ∧ o.b ≤ 9223372036854775807
  d : -9223372036854775808 ≤ o.d ∧ o.d ≤ 9223372036854775807
  s : o.s.size ≤ n
  lv : ∃ (lp : Option Addr) (lc : Nat) (ls : List ByteArray), o.lv = .slice lp ls.length lc ∧ TextsAt w lp ls ∧ ls.length ≤ n ∧ ∀ t ∈ ls, t.size ≤ 1048576
theorem OpL.below {w w' : World} {n B : Nat} {o : OpV} (h : OpL w n o) (hb : Below B w w') (hB : w.heap.size ≤ B) : OpL w' n o := by
  obtain ⟨lp, lc, ls, h1, h2, h3⟩ := h.lv
  exact ⟨h.a, h.b, h.d, h.s, lp, lc, ls, h1, h2.below hb hB, h3⟩
theorem OpIn.line {w : World} {N : Nat} {o : OpV} (h : OpIn w N o) (hN : N ≤ 1048576) : OpL w N o := by
  obtain ⟨h1, h2, h3, h4, _⟩ := h.nums
  refine ⟨h2, h3, h4, h.s, ?_⟩
  rcases h.lv with e | ⟨a, len, cap, e, _, _, hl, hsp, ht⟩
  · exact ⟨none, 0, [], e, .inl rfl, Nat.zero_le _, fun t ht => by simp at ht⟩
  · have hex : ∀ i, ∃ s : ByteArray, i < len → w.cell? ⟨a.block, a.off + i, none⟩ = some (.string s) ∧ s.size ≤ N := by
      intro i
      by_cases hi : i < len
      · obtain ⟨s, h1, h2⟩ := ht i hi
        exact ⟨s, fun _ => ⟨h1, h2⟩⟩
      · exact ⟨ByteArray.empty, fun h => absurd h hi⟩
    obtain ⟨f, hf⟩ := Classical.axiomOfChoice hex
    have hlen : ((List.range len).map f).length = len := by simp
    refine ⟨some a, cap, (List.range len).map f, by rw [hlen]; exact e, ?_, by rw [hlen]; exact hl, fun t ht => ?_⟩
    · rcases hsp with h0 | ⟨h5, h6⟩
      · left
        subst h0
        rfl
      · right
        obtain ⟨ab, ao, asp⟩ := a
        simp only at h5 h6 hf
        subst h5
        refine ⟨ab, ao, rfl, h6, fun i hi => ?_⟩
        rw [hlen] at hi
        rw [(hf i hi).1]
        simp
    · obtain ⟨i, hi, rfl⟩ := List.mem_map.1 ht
      have := (hf i (by simpa using hi)).2
      omega

section
variable {B wb M n : Nat} {ss : Value} {x : Lw} {w : World} {o : OpV}
theorem LwAt.notG {k : Nat} {c : Array Value} {t : TypeId} {fz : Nat × Nat} (h : LwAt B w wb ss x) (hc : w.heap[k]? = some (.cells c t fz)) (ht : t = 51) : ¬ lwBlk wb x k := by
  subst ht
  rintro (rfl | hb | ⟨e, he, hb⟩)
  · have h4 := h.bk.head
    unfold WAt at h4
    rw [hc] at h4
    simp at h4
  · obtain ⟨c2, t2, hc2, ht2⟩ := h.bk.ty hb
    rw [hc] at hc2
    simp only [Option.some.injEq, Obj.cells.injEq] at hc2
    rw [← hc2.2.1] at ht2
    revert ht2
    unfold bkTy
    decide
  · exact (h.ears e he).not hc (by unfold earTy; decide) hb
theorem LwAt.ltB (h : LwAt B w wb ss x) : ∀ k, lwBlk wb x k → k < w.heap.size := by
  rintro k (rfl | hb | ⟨e, he, hb⟩)
  · exact h.bk.head.lt
  · exact h.bk.lt hb
  · exact (h.ears e he).lt hb
theorem Lft.mono {M' : Nat} {w w' : World} (h : Lft B wb ss M w w') (hM : M ≤ M') : Lft B wb ss M' w w' := by
  obtain ⟨x', h1, h2, h3⟩ := h
  exact ⟨x', h1, h2.mono hM, h3⟩
theorem Lft.behind {w W w' : World} (h : Lft B wb ss M W w') (hb : Below B w W) : Lft B wb ss M w w' := by
  obtain ⟨x', h1, h2, h3⟩ := h
  exact ⟨x', h1, h2, hb.trans h3⟩

theorem step_line (h : LwAt B w wb ss x) (hsm : x.small M) (hM : M + (1064 * n + 9) ≤ 200000000000) (hB : B ≤ w.heap.size) (hk : 1 ≤ o.kind ∧ o.kind ≤ 5) (ho : OpL w n o) (hn : n ≤ 1048576) :
    Calls Tryz.prog 12 #[.pointer (some ⟨wb, 0, none⟩), opV o] w fun e w' => e = .returned (.bool true) ∧ Lft B wb ss (M + (1064 * n + 9)) w w' := by
  obtain ⟨lp, lc, ls, hlv, hT, hll, hlt⟩ := ho.lv
  have hlv2 : ∃ lp ln lc, o.lv = .slice lp ln lc := ⟨lp, ls.length, lc, hlv⟩
  have hs := ho.s
  have hkc : o.kind = 1 ∨ o.kind = 2 ∨ o.kind = 3 ∨ o.kind = 4 ∨ o.kind = 5 := by omega
  have hfin : ∀ {M' : Nat} {V : World} {e : Ending} {w' : World}, M' ≤ M + (1064 * n + 9) → Below w.heap.size w V → (e = .returned (.bool true) ∧ Lft B wb ss M' V w') → (e = .returned (.bool true) ∧ Lft B wb ss (M + (1064 * n + 9)) w w') := by
    intro M' V e w' hle hV hq
    exact ⟨hq.1, (hq.2.mono hle).behind (hV.mono hB)⟩
  have hear : ∀ {M' : Nat} {V : World} {e : Ending} {w' : World}, M' ≤ M + (1064 * n + 9) → Below w.heap.size w V → (e = .returned (.bool true) ∧ Lfs x B wb ss M' V w') → (e = .returned (.bool true) ∧ Lft B wb ss (M + (1064 * n + 9)) w w' ∧ Keeps (lwBlk wb x) V w' ∧ w'.cell? ⟨wb, 0, none⟩ = some x.hs) := by
    intro M' V e w' hle hV hq
    obtain ⟨rfl, x', q1, q2, q3, q4, q5⟩ := hq
    refine ⟨rfl, ⟨x', q1, q2.mono hle, (hV.mono hB).trans q3⟩, q4, ?_⟩
    rw [q1.bk.head.cell 0 _ rfl, ← q5]
    rfl
  rcases hkc with hk | hk | hk | hk4
  · refine step_plain1 hk hlv2 (fun V hV => (plain_sum (h.later hV) hsm (Nat.le_trans hB hV.size) hk hlv2 (by omega)).mono (fun e w' hq => hfin (by omega) hV hq))
  · refine step_plain2 hk hlv2 (fun V hV => (plain_bits (h.later hV) hsm (Nat.le_trans hB hV.size) hk hlv (hT.below hV (Nat.le_refl _)) (by omega) hlt).mono (fun e w' hq => hfin (by omega) hV hq))
  · refine step_plain3 hk hlv2 (fun V hV => (plain_hunter (h.later hV) hsm (by omega) (Nat.le_trans hB hV.size) hk hlv2).mono (fun e w' hq => hfin (by omega) hV hq))
  · by_cases h0 : x.es.length = 0
    · obtain ⟨p, c, e, _⟩ := ownsRow_slice h.row
      have hd := h.bk.head
      rw [e, h0] at hd
      have hq : ∀ {e : Ending} {w' : World}, (e = .returned (.bool true) ∧ Below w.heap.size w w') → (e = .returned (.bool true) ∧ Lft B wb ss (M + (1064 * n + 9)) w w') :=
        fun hq => ⟨hq.1, x, h.later hq.2, hsm.mono (by omega), hq.2.mono hB⟩
      rcases hk4 with hk | hk
      · exact (step_none4 hk hlv2 hd).mono (fun e w' q => hq q)
      · exact (step_none5 hk hlv2 hd).mono (fun e w' q => hq q)
    · have hpos : 0 < x.es.length := by omega
      have hrow := h.row
      rcases hrow.2 with ⟨_, e0⟩ | ⟨g, cap, cur, hhs, _, hg, _⟩
      · omega
      · have hes := hsm.es
        have hec : ∀ i (hi : i < x.es.length), w.cell? ⟨g, i * 2, none⟩ = some (.pointer (some ⟨x.es[i].hb, 0, none⟩)) ∧ w.cell? ⟨g, i * 2 + 1, none⟩ = some (.pointer (some ⟨x.es[i].rb, 0, none⟩)) := by
          intro i hi
          have e2 := earCells_get x.es i hi
          have a0 := World.ownsRow.cells hrow (g := g) (by rw [hhs]; rfl) (i * 2) _ e2.1
          have a1 := World.ownsRow.cells hrow (g := g) (by rw [hhs]; rfl) (i * 2 + 1) _ e2.2
          rw [Go.WideShapes.add_plain, Nat.zero_add] at a0 a1
          exact ⟨a0, a1⟩
        have hgl := (Array.getElem?_eq_some_iff.1 hg).1
        rcases hk4 with hk | hk
        · exact step_heard4 (X := lwBlk wb x) hk hlv2 ho.a h.bk.head hhs rfl hpos (by omega) hgl (h.notG hg rfl) h.ltB hec
            (fun V i hi hV => (heard_feed (h.later hV) hsm (by omega) (Nat.le_trans hB hV.size) hi hk hlv2).mono (fun e w' hq => hear (by omega) hV hq))
        · exact step_heard5 (X := lwBlk wb x) hk hlv2 ho.a h.bk.head hhs rfl hpos (by omega) hgl (h.notG hg rfl) h.ltB hec
            (fun V i hi hV => (heard_line (h.later hV) hsm (by omega) (Nat.le_trans hB hV.size) hi hk hlv (hT.below hV (Nat.le_refl _)) (by omega) hlt ho.b ho.d).mono (fun e w' hq => hear (by omega) hV hq))
end

/-- How much there is at most behind r steps. -/
def bulkAt (ns : List Nat) (r : Nat) : Nat := 1064 * (ns.take r).sum + 9 * min r ns.length
theorem bulkAt_mono (ns : List Nat) (r : Nat) : bulkAt ns r ≤ bulkAt ns (r + 1) := by
  unfold bulkAt
  rw [List.take_add_one, List.sum_append]
  omega
theorem bulkAt_step (ns : List Nat) (r n : Nat) (h : ns[r]? = some n) : bulkAt ns (r + 1) = bulkAt ns r + (1064 * n + 9) := by
  unfold bulkAt
  have hl := (List.getElem?_eq_some_iff.1 h).1
  rw [List.take_add_one, List.sum_append, h]
  simp
  omega
theorem take_sum (ns : List Nat) (r : Nat) : (ns.take r).sum ≤ ns.sum := by
  have := congrArg List.sum (List.take_append_drop r ns)
  rw [List.sum_append] at this
  omega
theorem bulkAt_le (ns : List Nat) (r : Nat) : bulkAt ns r ≤ 1064 * ns.sum + 9 * ns.length := by
  unfold bulkAt
  have := take_sum ns r
  omega

/-- Amid a script on a line. -/
def LnJ (V : World) (ns : List Nat) (r : Nat) (W : World) : Prop := (∃ x, LwAt V.heap.size W V.heap.size (.slice none 0 0) x ∧ x.small (bulkAt ns r)) ∧ Below V.heap.size V W
theorem lw_zero (V : World) : LwAt V.heap.size (V.alloc (.cells wZero 45)) V.heap.size (.slice none 0 0) ⟨.slice none 0 0, [], bkZero⟩ := by
  refine ⟨⟨alloc1_a _ _, World.ownsRow_nil _ _ _ _, World.ownsRow_nil _ _ _ _, World.ownsRow_nil _ _ _ _, World.ownsRow_nil _ _ _ _, fun i v hv => by simp [bkZero] at hv, fun i v hv => by simp [bkZero] at hv, fun i v hv => by simp [bkZero] at hv, fun i v hv => by simp [bkZero] at hv, fun i hi => by simp [bkZero] at hi, rfl, rfl, rfl, rfl, fun v hv => by simp [bkZero] at hv⟩, World.ownsRow_nil _ _ _ _, fun e he => by simp at he, List.Pairwise.nil, Nat.le_refl _, fun k hk => (by cases hk), fun k hk => absurd hk (bkZero_blk k), fun e he => by simp at he⟩

theorem played_lines {V : World} {g cap' : Nat} {os : List OpV} {ns : List Nat} (hns : ns.length = os.length) (hsum : ns.sum ≤ 1200000) (hsm : os.length ≤ 2000000) (hg : g < V.heap.size) (hops : OpsAt V g os) (hok : ∀ (i : Nat) (o : OpV) (n : Nat), os[i]? = some o → ns[i]? = some n → OpL V n o) (hnm : ∀ n ∈ ns, n ≤ 1048576) :
    Calls Tryz.prog 11 #[.slice (some ⟨g, 0, none⟩) os.length cap', .int .i64 1, .int .i64 5] V fun e w' => e = .returned (.bool true) ∧ Below V.heap.size V w' := by
  have hbk : ∀ r, bulkAt ns r ≤ 3000000000 := fun r => by have := bulkAt_le ns r; omega
  refine played_any (lo := 1) (hi := 5) (cap := cap') (B := V.heap.size) hg hops (by omega) (LnJ V ns) ?_ ?_ ?_ ?_ ?_
  · exact ⟨⟨_, lw_zero V, ⟨Nat.zero_le _, Nat.zero_le _, Nat.zero_le _, Nat.zero_le _, Nat.zero_le _, fun e he => by simp at he⟩⟩, (Below.refl _ V).alloc (Nat.le_refl _) _⟩
  · exact fun r W h => h.2
  · rintro r W ⟨⟨x, h1, h2⟩, h3⟩
    exact ⟨⟨x, h1, h2.mono (bulkAt_mono ns r)⟩, h3⟩
  · rintro r W o ho hlo hhi ⟨⟨x, h1, h2⟩, h3⟩
    have hr : r < os.length := (List.getElem?_eq_some_iff.1 ho).1
    obtain ⟨n, hn⟩ : ∃ n, ns[r]? = some n := ⟨_, List.getElem?_eq_getElem (by omega)⟩
    have hn2 := hnm n (List.mem_of_getElem? hn)
    have hb := hbk r
    refine (step_line h1 h2 (by omega) h3.size ⟨hlo, hhi⟩ ((hok r o n ho hn).below h3 (Nat.le_refl _)) hn2).mono ?_
    rintro e w' ⟨rfl, x', q1, q2, q3⟩
    exact ⟨rfl, ⟨x', q1, by rw [bulkAt_step ns r n hn]; exact q2⟩, h3.trans q3⟩
  · rintro r W ⟨⟨x, h1, h2⟩, h3⟩
    refine (looks_lw h1 h2 (by have := hbk r; omega)).mono ?_
    rintro e w' ⟨rfl, rfl⟩
    exact ⟨rfl, ⟨x, h1, h2⟩, h3⟩

theorem first_line {w : World} {g2 g3 g4 : Nat} (h2 : w.heap[g2]? = some (.cells #[.string ⟨#[3, 63]⟩] 9 (0, 0))) (h3 : w.heap[g3]? = some (.cells #[.string ⟨#[3, 63]⟩, .string ⟨#[104, 101, 108, 108, 111]⟩] 9 (0, 0))) : ∀ o ∈ firstOps g2 g3 g4, OpL w 9 o := by
  have hr : ∀ z : Int, -100 ≤ z → z ≤ 100 → -9223372036854775808 ≤ z ∧ z ≤ 9223372036854775807 := fun z h1 h2 => ⟨by omega, by omega⟩
  have hg : ∀ {k a b d : Int} {s : ByteArray} {lv : Value} {f : Fr} {fq : Option Addr} {fc : Nat} {c0 c1 c2 c3 c4 c5 : Int}, (-100 ≤ a ∧ a ≤ 100) → (-100 ≤ b ∧ b ≤ 100) → (-100 ≤ d ∧ d ≤ 100) → s.size ≤ 9 → (∃ (lp : Option Addr) (lc : Nat) (ls : List ByteArray), lv = .slice lp ls.length lc ∧ TextsAt w lp ls ∧ ls.length ≤ 9 ∧ ∀ t ∈ ls, t.size ≤ 1048576) → OpL w 9 ⟨k, a, b, d, s, lv, f, fq, fc, c0, c1, c2, c3, c4, c5⟩ :=
    fun ha hb hd hs hl => ⟨hr _ ha.1 ha.2, hr _ hb.1 hb.2, hr _ hd.1 hd.2, hs, hl⟩
  have hz : ∃ (lp : Option Addr) (lc : Nat) (ls : List ByteArray), Value.slice none 0 0 = .slice lp ls.length lc ∧ TextsAt w lp ls ∧ ls.length ≤ 9 ∧ ∀ t ∈ ls, t.size ≤ 1048576 := ⟨none, 0, [], rfl, .inl rfl, Nat.zero_le _, fun t ht => by simp at ht⟩
  intro o ho
  simp only [firstOps, List.mem_cons, List.not_mem_nil, or_false] at ho
  rcases ho with rfl | rfl | rfl | rfl | rfl | rfl | rfl | rfl | rfl | rfl | rfl | rfl | rfl | rfl | rfl | rfl | rfl | rfl | rfl | rfl | rfl
  case inr.inl =>
    refine hg (by decide) (by decide) (by decide) (by decide) ⟨some ⟨g2, 0, none⟩, 1, [⟨#[3, 63]⟩], rfl, .inr ⟨g2, 0, rfl, (Array.getElem?_eq_some_iff.1 h2).1, fun i hi => ?_⟩, by decide, fun t ht => by simp at ht; subst ht; decide⟩
    match i, hi with
    | 0, _ => rw [Lib.cell_of_heap h2]; rfl
  case inr.inr.inr.inl =>
    refine hg (by decide) (by decide) (by decide) (by decide) ⟨some ⟨g3, 0, none⟩, 2, [⟨#[3, 63]⟩, ⟨#[104, 101, 108, 108, 111]⟩], rfl, .inr ⟨g3, 0, rfl, (Array.getElem?_eq_some_iff.1 h3).1, fun i hi => ?_⟩, by decide, fun t ht => by simp at ht; rcases ht with rfl | rfl <;> decide⟩
    match i, hi with
    | 0, _ => rw [Lib.cell_of_heap h3]; rfl
    | 1, _ => rw [Lib.cell_of_heap h3]; rfl
  all_goals exact hg (by decide) (by decide) (by decide) (by decide) hz

set_option maxHeartbeats 4000000 in
set_option maxRecDepth 100000 in
theorem lines_any {a : Option Addr} {len cap : Nat} {os : List OpV} {ns : List Nat} {w : World} (hs : Script w a len cap os) (hns : ns.length = len) (hsum : ns.sum ≤ 1048576) (hok : ∀ (i : Nat) (o : OpV) (n : Nat), os[i]? = some o → ns[i]? = some n → OpL w n o) (hnm : ∀ n ∈ ns, n ≤ 1048576) :
    Calls Tryz.prog 3 #[.slice a len cap] w fun e w' => e = .returned (.bool true) ∧ Below w.heap.size w w' := by
  have k1 : Calls Tryz.prog 8 #[.slice a len cap, .int .i64 1, .int .i64 5] w fun e w' => e = .returned (.bool true) ∧ Below w.heap.size w w' := by
    refine plays_any hs (fun V g cap' hV hg1 hg2 h4 h2 h3 hops => ?_)
    have hsz := hV.size
    have hl : (firstOps (w.heap.size + 1 + 1) (w.heap.size + 1 + 1 + 1) (w.heap.size + 1 + 1 + 1 + 1) ++ os).length = 21 + len := by rw [List.length_append, firstOps_len, hs.hlen]
    have hsm := hs.small
    have hl2 : (List.replicate 21 9 ++ ns).length = 21 + len := by rw [List.length_append, List.length_replicate, hns]
    have q := played_lines (cap' := cap') (ns := List.replicate 21 9 ++ ns) (by rw [hl, hl2]) (by rw [List.sum_append]; have : (List.replicate 21 9).sum = 189 := by decide
                                                                                                  omega) (by rw [hl]; omega) hg2 hops (fun i o n ho hn => by
      by_cases hi : i < 21
      · rw [List.getElem?_append_left (by rw [firstOps_len]; exact hi)] at ho
        rw [List.getElem?_append_left (by rw [List.length_replicate]; exact hi)] at hn
        have hn9 : n = 9 := by
          have := List.mem_of_getElem? hn
          exact List.eq_of_mem_replicate this
        subst hn9
        exact first_line h2 h3 o (List.mem_of_getElem? ho)
      · rw [List.getElem?_append_right (by rw [firstOps_len]; omega), firstOps_len] at ho
        rw [List.getElem?_append_right (by rw [List.length_replicate]; omega), List.length_replicate] at hn
        exact (hok _ o n ho hn).below hV (Nat.le_refl _)) (fun n hn => by
      rcases List.mem_append.1 hn with hn | hn
      · have := List.eq_of_mem_replicate hn
        omega
      · exact hnm n hn)
    rw [hl] at q
    refine q.mono ?_
    rintro e w' ⟨rfl, hb⟩
    exact ⟨rfl, hb.mono hsz⟩
  have K1 := hide k1
  clear k1
  go_enter Tryz.func3, Tryz.ntmps3
  go_wp2_with fail
  refine (unhide K1).mono ?_
  rintro e w1 ⟨rfl, hb⟩
  clear K1
  have HB := hide hb
  clear hb
  go_wp2
  go_ret
  exact ⟨rfl, unhide HB⟩
end Go.Proofs.YtkalonhalhdlaaaGreatDoor
