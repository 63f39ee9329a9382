/-
  What one call of Feed does to a hunter, given a text of noughts and ones: what is told is in new memory, as in plain words (LPure: feedH); every block but the hunter's stands as it stood.
-/
import Derived.Test.YtkalonhalhdlaaaLFeed
namespace Go.Proofs.Ytkalonhalhdlaaa
open Go.RowKit

theorem infoFound : (Try.prog.info? 37).map (fun i => (i.zero, i.size, i.bytes)) = some (some (.agg #[.int .i64 0, .slice none 0 0]), 2, 32) := by kernel_rfl

theorem feed_step (hc : HS) (bs : List Bool) (pos : Nat) (bit : Bool) (h1 : HS) (t : List (Nat × List UInt8)) (acc : List (Nat × List UInt8)) (hd : bs.drop pos = bit :: bs.drop (pos + 1))
    (e1 : (feedH hc (bs.drop pos)).1 = h1) (e2 : acc ++ (feedH hc (bs.drop pos)).2 = t) :
    (feedH (hearH hc bit).1 (bs.drop (pos + 1))).1 = h1 ∧ (acc ++ (hearH hc bit).2.toList) ++ (feedH (hearH hc bit).1 (bs.drop (pos + 1))).2 = t := by
  rw [hd] at e1 e2
  simp only [feedH] at e1 e2
  exact ⟨e1, by rw [List.append_assoc]; exact e2⟩

theorem Keeps.transNew {X Y : Nat → Prop} {a w w' : World} (h : Keeps X a w) (k : Keeps Y w w') (hY : ∀ i, Y i → a.heap.size ≤ i) : Keeps X a w' :=
  ⟨k.os.trans h.os, k.tape.trans h.tape, k.output.trans h.output, Nat.le_trans h.size k.size, fun i hi hx => (k.block i (Nat.lt_of_lt_of_le hi h.size) (fun hy => by have := hY i hy; omega)).trans (h.block i hi hx)⟩

/-- The bytes of what was told lie apart. -/
def Apart (t : Told) : Prop := t.Pairwise fun x y => ∀ a b, x.2.1 = some a → y.2.1 = some b → a.block ≠ b.block
theorem bytes_lt {w : World} {base : Nat} {f : Nat × List UInt8} {p : Option Addr} {cap : Nat} (h : Bytes w base f p cap) : ∀ a, p = some a → base ≤ a.block ∧ a.block < w.heap.size := by
  intro a ha
  rcases h.2 with ⟨hv, _⟩ | ⟨g, cp, cur, hv, hb, hg, _⟩
  · simp only [Value.slice.injEq] at hv
    rw [hv.1] at ha
    simp at ha
  · simp only [Value.slice.injEq] at hv
    rw [hv.1] at ha
    simp only [Option.some.injEq] at ha
    rw [← ha]
    exact ⟨hb, (Array.getElem?_eq_some_iff.1 hg).1⟩
theorem apart_put {w V : World} {base B : Nat} {v : Value} {ts : Told} {f : Nat × List UInt8} {p : Option Addr} {cap : Nat} (h : Apart ts) (hT : ToldAt w base v ts) (hby : Bytes V B f p cap) (hB : w.heap.size ≤ B) : Apart (ts ++ [(f, (p, cap))]) := by
  refine List.pairwise_append.2 ⟨h, by simp, ?_⟩
  intro x hx y hy a b ha hb
  simp at hy
  subst hy
  have h1 := (bytes_lt (hT.2 x hx) a ha).2
  have h2 := (bytes_lt hby b hb).1
  omega

theorem feed_put {w V w2 : World} {b I B : Nat} {hn : HS} {s : ByteArray} {pos : Nat} {v v' : Value} {ts : Told} {f : Nat × List UInt8} {p : Option Addr} {cap : Nat} {o1 o2 : Obj}
    (k1 : HunterAt V b hn) (hit : V.heap[I]? = some (.stringIter s pos)) (hT : ToldAt V w.heap.size v ts) (hw : Keeps (· = b) w V) (hby : Bytes V B f p cap) (hb : b < w.heap.size) (_hI : w.heap.size ≤ I) (_hne : I ≠ b) (hB : w.heap.size ≤ B)
    (hown' : w2.ownsRow w.heap.size 37 2 v' (ts.length + 1) (toldCells ts ++ [.int .i64 f.1, .slice p f.2.length cap])) (hgrow : ((V.alloc o1).alloc o2).grownBy w2 v.ownBlock) :
    ToldAt w2 w.heap.size v' (ts ++ [(f, (p, cap))]) ∧ HunterAt w2 b hn ∧ w2.heap[I]? = some (.stringIter s pos) ∧ Keeps (· = b) w w2 := by
  have hg := Keeps.grown hgrow
  have hVV : Keeps (fun _ => False) V ((V.alloc o1).alloc o2) := ((Keeps.refl _ V).alloc _).alloc _
  have hrow : ∀ kk, some kk = v.ownBlock → w.heap.size ≤ kk ∧ ∃ c fz, V.heap[kk]? = some (.cells c 37 fz) := by
    intro kk hk
    rcases hT.1.2 with ⟨hv, _⟩ | ⟨g, cp, cur, hv, hgb, hgh, _⟩
    · rw [hv] at hk; simp [Value.ownBlock] at hk
    · rw [hv] at hk
      simp [Value.ownBlock] at hk
      subst hk
      exact ⟨hgb, cur, _, hgh⟩
  have hrowA : ∀ kk, some kk = v.ownBlock → ∃ c fz, ((V.alloc o1).alloc o2).heap[kk]? = some (.cells c 37 fz) := by
    intro kk hk
    obtain ⟨_, c, fz, hc⟩ := hrow kk hk
    exact ⟨c, fz, by rw [hVV.block kk (Array.getElem?_eq_some_iff.1 hc).1 id]; exact hc⟩
  have carry : ∀ {x : Nat × List UInt8} {q : Option Addr} {c : Nat}, Bytes V w.heap.size x q c → Bytes w2 w.heap.size x q c := by
    intro x q c hx
    refine ownsRow_keeps (ownsRow_keeps hx hVV (fun _ h => absurd h id)) hg ?_
    intro kk hk c' fz' hc'
    obtain ⟨c2, fz2, h2⟩ := hrowA kk hk
    rw [h2] at hc'
    simp at hc'
  refine ⟨⟨?_, ?_⟩, ?_, ?_, ?_⟩
  · rw [toldCells_append, List.length_append]
    exact hown'
  · intro x hx
    rcases List.mem_append.1 hx with hx | hx
    · exact carry (hT.2 x hx)
    · simp at hx
      subst hx
      exact carry (ownsRow_mono hby hB)
  · exact ((k1.alloc _).alloc _).keeps hg (fun hk => by have := (hrow b hk).1; omega)
  · refine iter_keeps (iter_keeps hit hVV id) hg (fun hk => ?_)
    obtain ⟨_, c, fz, hc⟩ := hrow I hk
    rw [hc] at hit
    simp at hit
  · exact ((hw.alloc _).alloc _).transNew hg (fun i hi => (hrow i hi).1)

set_option maxHeartbeats 4000000 in
set_option maxRecDepth 1000000 in
theorem feed_apart (b : Nat) (h : HS) (bs : List Bool) (w : World) (k : HunterAt w b h) (ok : h.ok) (hs : bs.length ≤ 1099511627776) :
    Calls Try.prog 8 #[.pointer (some ⟨b, 0, none⟩), .string ⟨(txt bs).toArray⟩] w fun e w' => ∃ v t, e = .returned (.tuple #[v, .int .i64 0]) ∧ t.map Prod.fst = (feedH h bs).2 ∧ ToldAt w' w.heap.size v t ∧ Apart t ∧ HunterAt w' b (feedH h bs).1 ∧ Keeps (· = b) w w' := by
  obtain ⟨i0, hi, hz0, hz1, hz2⟩ := info_parts infoFound
  have hob := onlyBits_txt bs w
  have hsz0 := txt_size bs
  have hget := txt_get bs
  generalize (⟨(txt bs).toArray⟩ : ByteArray) = s at hsz0 hget hob
  have HZ : Hid (s.size = bs.length) := hsz0
  have HG : Hid (∀ k (h : k < bs.length) (h' : k < s.size), s[k]'h' = chr bs[k]) := hget
  have HOB := hide hob
  clear hsz0 hget hob
  go_enter Try.func8, Try.ntmps8
  go_wp2_with fail
  refine (unhide HOB).mono ?_
  rintro e W0 ⟨rfl, hb0⟩
  clear HOB
  have hs0 := hb0.size
  have k0 : HunterAt W0 b h := k.keeps (Keeps.of (X := fun _ => False) hb0) id
  have hblt := k.lt
  go_wp2
  obtain ⟨I, hI⟩ : ∃ I, I = W0.heap.size := ⟨_, rfl⟩
  have hIw : w.heap.size ≤ I := by omega
  have hneI : I ≠ b := by omega
  rw [← hI]
  have HI := hide hI
  clear hI
  go_loopw [6] (fun v wr => ∃ (pos : Nat) (hc : HS) (ts : Told), pos ≤ bs.length ∧ ts.length ≤ pos ∧ hc.ok ∧ HunterAt wr b hc ∧ wr.heap[I]? = some (.stringIter s pos) ∧ ToldAt wr w.heap.size v ts ∧ Apart ts ∧ Keeps (· = b) w wr ∧ (feedH hc (bs.drop pos)).1 = (feedH h bs).1 ∧ ts.map Prod.fst ++ (feedH hc (bs.drop pos)).2 = (feedH h bs).2) (fun _ wr => s.size - wr.iterPos I)
  case atStart =>
    refine ⟨0, h, [], Nat.zero_le _, Nat.le_refl _, ok, k0.alloc _, ?_, ⟨World.ownsRow_nil _ _ _ _, by simp⟩, List.Pairwise.nil, (Keeps.of hb0).alloc _, rfl, rfl⟩
    rw [unhide HI]
    exact World.iter_heap W0 s 0
  case round =>
    obtain ⟨pos, hc, ts, hpos, hts, okc, kc, hit, hT, hap, hw, hf1, hf2⟩ := hrel
    have HAP := hide hap
    clear hap
    have hIlt : I < wr.heap.size := (Array.getElem?_eq_some_iff.1 hit).1
    by_cases hp : pos < bs.length
    · have hp' : pos < s.size := by rw [HZ.out]; exact hp
      have hb0 := HG.out pos hp hp'
      have hdrop : bs.drop pos = bs[pos] :: bs.drop (pos + 1) := List.drop_eq_getElem_cons hp
      have hF := feed_step hc bs pos bs[pos] _ _ _ hdrop hf1 hf2
      clear hf1 hf2 hdrop
      generalize bs[pos] = bit at hb0 hF
      have hnx : ∀ ty, (Instr.next (.pointer (some ⟨I, 0, none⟩)) true ty).run Try.prog wr = _ := fun ty => Lib.run_next_ascii_at wr I s pos ty hit hp' (by rw [hb0]; cases bit <;> decide)
      rw [hb0] at hnx
      have hit2 := Lib.iterAt_heap wr I s pos (pos + 1) hit
      have kI : HunterAt (wr.iterAt I s (pos + 1)) b hc := kc.keeps (keeps_iterAt wr I s (pos + 1)) (fun e => hneI e.symm)
      have hTI := hT.keeps (keeps_iterAt wr I s (pos + 1)) (fun k hX c fz => by subst hX; rw [hit]; simp)
      have hwI := hw.iterAt hIw s (pos + 1)
      clear hb0 hp' kc hT hw
      cases bit
      · have e48 : (chr false).toNat = 48 := by decide
        rw [e48] at hnx
        clear e48
        go_wp2_with fail
        refine (hear_nought b hc _ kI okc).mono ?_
        rintro e V ⟨p, cap, rfl, hby, k1, hK1⟩
        clear hnx
        have okn := hearH_ok hc false okc
        have hT1 := hTI.keeps hK1 (fun k hX c fz => by subst hX; rw [kI]; simp)
        have hit3 := iter_keeps hit2 hK1 hneI
        have hwV : Keeps (· = b) w V := hwI.trans hK1
        have hbV := k1.lt
        have hIV : I < V.heap.size := (Array.getElem?_eq_some_iff.1 hit3).1
        have hszV := hK1.size
        generalize hearH hc false = r at hby k1 hF okn
        obtain ⟨hn, o⟩ := r
        cases o with
        | none =>
          have HF := hide hF
          clear hF hby
          simp only [told, fv, Option.getD, Option.isSome]
          go_wp2
          go_roundw
          case rel =>
            have hF := unhide HF
            refine ⟨pos + 1, hn, ts, by omega, by omega, okn, k1.alloc _, ?_, hT1.keeps (X := fun _ => False) (Keeps.of ((Below.refl _ V).alloc (Nat.le_refl _) _)) (fun _ hX => absurd hX id), unhide HAP, hwV.alloc _, by simpa using hF.1, by simpa using hF.2⟩
            rw [Below.heap_alloc _ _ _ hIV]; exact hit3
          case measure =>
            have hh : ∀ o, (V.alloc o).heap[I]? = some (.stringIter s (pos + 1)) := fun o => by rw [Below.heap_alloc _ _ _ hIV]; exact hit3
            simp only [World.iterPos, hit, hh]
            have := HZ.out
            omega
        | some f =>
          have HF := hide hF
          clear hF
          simp only [told, Option.getD] at hby
          simp only [told, fv, Option.getD, Option.isSome]
          go_wp2_with (at_builtin; refine wpList_append_own _ rfl _ _ 32 rfl w.heap.size 37 i0 _ 2 32 Try.underlying32 hi hz0 hz1 hz2 rfl (by decide) _ _ _ rfl ((hT1.1.alloc _).alloc _) ⟨V.heap.size + 1, 0, none⟩ 1 1 [.int .i64 f.1, .slice p f.2.length cap] rfl rfl ?noughtc1 ?noughtc2 ?noughtc3 ?noughtc4 ?noughtc5 ?_)
          case noughtc2 => exact ⟨rfl, rfl⟩
          case noughtc3 => unfold maxLen; omega
          case noughtc4 => omega
          case noughtc5 => omega
          intro v' w2 hown' hgrow _
          have AP := hide (apart_put (unhide HAP) hTI hby (Nat.le_refl _))
          have R := hide (feed_put k1 hit3 hT1 hwV hby hblt (by omega) hneI (by rw [Lib.iterAt_size]; omega) hown' hgrow)
          clear hown' hgrow hT1 hby hit3 hTI hit2 kI
          obtain ⟨ao, n', cp, rfl⟩ : ∃ ao n' cp, v' = .slice ao n' cp := by
            rcases (unhide R).1.1.2 with ⟨hv, _⟩ | ⟨g, cp, cur, hv, _⟩
            · exact ⟨_, _, _, hv⟩
            · exact ⟨_, _, _, hv⟩
          go_wp2
          go_roundw
          case rel =>
            have hF := unhide HF
            obtain ⟨R1, R2, R3, R4⟩ := unhide R
            exact ⟨pos + 1, hn, ts ++ [(f, (p, cap))], by omega, by simp; omega, okn, R2, R3, R1, unhide AP, R4, hF.1, by simpa using hF.2⟩
          case measure =>
            obtain ⟨R1, R2, R3, R4⟩ := unhide R
            simp only [World.iterPos, hit, R3]
            have := HZ.out
            omega
      · have e49 : (chr true).toNat = 49 := by decide
        rw [e49] at hnx
        clear e49
        go_wp2_with fail
        refine (hear_one b hc _ kI okc).mono ?_
        rintro e V ⟨p, cap, rfl, hby, k1, hK1⟩
        clear hnx
        have okn := hearH_ok hc true okc
        have hT1 := hTI.keeps hK1 (fun k hX c fz => by subst hX; rw [kI]; simp)
        have hit3 := iter_keeps hit2 hK1 hneI
        have hwV : Keeps (· = b) w V := hwI.trans hK1
        have hbV := k1.lt
        have hIV : I < V.heap.size := (Array.getElem?_eq_some_iff.1 hit3).1
        have hszV := hK1.size
        generalize hearH hc true = r at hby k1 hF okn
        obtain ⟨hn, o⟩ := r
        cases o with
        | none =>
          have HF := hide hF
          clear hF hby
          simp only [told, fv, Option.getD, Option.isSome]
          go_wp2
          go_roundw
          case rel =>
            have hF := unhide HF
            refine ⟨pos + 1, hn, ts, by omega, by omega, okn, k1.alloc _, ?_, hT1.keeps (X := fun _ => False) (Keeps.of ((Below.refl _ V).alloc (Nat.le_refl _) _)) (fun _ hX => absurd hX id), unhide HAP, hwV.alloc _, by simpa using hF.1, by simpa using hF.2⟩
            rw [Below.heap_alloc _ _ _ hIV]; exact hit3
          case measure =>
            have hh : ∀ o, (V.alloc o).heap[I]? = some (.stringIter s (pos + 1)) := fun o => by rw [Below.heap_alloc _ _ _ hIV]; exact hit3
            simp only [World.iterPos, hit, hh]
            have := HZ.out
            omega
        | some f =>
          have HF := hide hF
          clear hF
          simp only [told, Option.getD] at hby
          simp only [told, fv, Option.getD, Option.isSome]
          go_wp2_with (at_builtin; refine wpList_append_own _ rfl _ _ 32 rfl w.heap.size 37 i0 _ 2 32 Try.underlying32 hi hz0 hz1 hz2 rfl (by decide) _ _ _ rfl ((hT1.1.alloc _).alloc _) ⟨V.heap.size + 1, 0, none⟩ 1 1 [.int .i64 f.1, .slice p f.2.length cap] rfl rfl ?onec1 ?onec2 ?onec3 ?onec4 ?onec5 ?_)
          case onec2 => exact ⟨rfl, rfl⟩
          case onec3 => unfold maxLen; omega
          case onec4 => omega
          case onec5 => omega
          intro v' w2 hown' hgrow _
          have AP := hide (apart_put (unhide HAP) hTI hby (Nat.le_refl _))
          have R := hide (feed_put k1 hit3 hT1 hwV hby hblt (by omega) hneI (by rw [Lib.iterAt_size]; omega) hown' hgrow)
          clear hown' hgrow hT1 hby hit3 hTI hit2 kI
          obtain ⟨ao, n', cp, rfl⟩ : ∃ ao n' cp, v' = .slice ao n' cp := by
            rcases (unhide R).1.1.2 with ⟨hv, _⟩ | ⟨g, cp, cur, hv, _⟩
            · exact ⟨_, _, _, hv⟩
            · exact ⟨_, _, _, hv⟩
          go_wp2
          go_roundw
          case rel =>
            have hF := unhide HF
            obtain ⟨R1, R2, R3, R4⟩ := unhide R
            exact ⟨pos + 1, hn, ts ++ [(f, (p, cap))], by omega, by simp; omega, okn, R2, R3, R1, unhide AP, R4, hF.1, by simpa using hF.2⟩
          case measure =>
            obtain ⟨R1, R2, R3, R4⟩ := unhide R
            simp only [World.iterPos, hit, R3]
            have := HZ.out
            omega
    · have hp' : ¬ pos < s.size := by rw [HZ.out]; exact hp
      have hnx : ∀ ty, (Instr.next (.pointer (some ⟨I, 0, none⟩)) true ty).run Try.prog wr = _ := fun ty => Lib.run_next_end_at wr I s pos ty hit hp'
      have hd : bs.drop pos = [] := List.drop_eq_nil_of_le (by omega)
      rw [hd] at hf1 hf2
      simp only [feedH, List.append_nil] at hf1 hf2
      have HF1 := hide hf1
      have HF2 := hide hf2
      clear hf1 hf2 hd
      go_wp2
      go_ret2
      exact ⟨_, ts, rfl, unhide HF2, hT, unhide HAP, unhide HF1 ▸ kc, hw⟩

theorem feed_txt (b : Nat) (h : HS) (bs : List Bool) (w : World) (k : HunterAt w b h) (ok : h.ok) (hs : bs.length ≤ 1099511627776) :
    Calls Try.prog 8 #[.pointer (some ⟨b, 0, none⟩), .string ⟨(txt bs).toArray⟩] w fun e w' => ∃ v t, e = .returned (.tuple #[v, .int .i64 0]) ∧ t.map Prod.fst = (feedH h bs).2 ∧ ToldAt w' w.heap.size v t ∧ HunterAt w' b (feedH h bs).1 ∧ Keeps (· = b) w w' :=
  (feed_apart b h bs w k ok hs).mono fun _ _ ⟨v, t, h1, h2, h3, _, h5, h6⟩ => ⟨v, t, h1, h2, h3, h5, h6⟩
end Go.Proofs.Ytkalonhalhdlaaa
