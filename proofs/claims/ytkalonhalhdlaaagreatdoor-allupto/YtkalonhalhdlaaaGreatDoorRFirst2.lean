import Derived.Test.YtkalonhalhdlaaaGreatDoorG15
set_option maxHeartbeats 8000000
set_option maxRecDepth 1000000
namespace Go.Proofs.YtkalonhalhdlaaaGreatDoor
open Go.RowKit
theorem first_any (w:World):
  Calls Tryz.prog 9 #[] w fun e w'=>e=.returned (.slice (some ⟨w.heap.size+1+1+1+1+1,0,none⟩) 21 21)∧w'.heap[w.heap.size+1+1+1+1+1]?=some (.cells (X6 (YW (w.heap.size+1+1) (w.heap.size+1+1+1) (w.heap.size+1+1+1+1))).toArray 34 (0,0))∧w'.heap[w.heap.size+1+1+1+1]?=some (.cells #[.int .u8 97] 5 (1,2))∧w'.heap[w.heap.size+1+1]?=some (.cells #[.string ⟨#[3,63]⟩] 9 (0,0))∧w'.heap[w.heap.size+1+1+1]?=some (.cells #[.string ⟨#[3,63]⟩,.string ⟨#[104,101,108,108,111]⟩] 9 (0,0))∧Below w.heap.size w w':=by
 have hcv:=XkL w;obtain⟨i0,hi0,hz0,hz1',hz2'⟩:=info_parts XgF;have hfill:=Xjh (w.heap.size+1+1) (w.heap.size+1+1+1) (w.heap.size+1+1+1+1);have HF:=hide hfill;clear hfill;go_enter Tryz.func9,Tryz.ntmps9
 go_wp2_with (refine wp_buildSlice 22 34 21 _ rfl _ i0 _ Tryz.underlying22 hi0 hz0 ?s1 ?s2 ?s3 ?_)
 refine wp_buildSlice (P:=Tryz.prog) 22 34 21 _ rfl ((X6 (YW (w.heap.size+1+1) (w.heap.size+1+1+1) (w.heap.size+1+1+1+1))).toArray) i0 _ Tryz.underlying22 hi0 hz0 ?s1 ?s2 ?s3 ?_
 case s1=>rw[hz1'];omega
 case s2=>rw[hz1'];omega
 case s3=>
  rw[hz1'];refine Eq.trans (congrArg (Instr.fill (fun i=>some (i*18,18)) _) ?_) (Xa HF);rw[Array.toList_map];rfl
 clear HF;dsimp only[Act.put]
 go_wp2
 go_ret
 have a1:∀(V:World) (o:Obj),(V.alloc o).heap=V.heap.push o:=fun _ _=>rfl
 have hz:∀(V:World) (o:Obj),(V.alloc o).heap.size=V.heap.size+1:=fun _ _=>by simp[a1]
 refine⟨rfl,?_,?_,?_,?_,?_⟩
 ·rw[a1,Array.getElem?_push,if_pos (by simp only[hz])]
 ·rw[a1,Array.getElem?_push,if_neg (by simp only[hz];omega),a1,Array.getElem?_push,if_pos (by simp only[hz])]
 ·rw[a1,Array.getElem?_push,if_neg (by simp only[hz];omega),a1,Array.getElem?_push,if_neg (by simp only[hz];omega),a1,Array.getElem?_push,if_neg (by simp only[hz];omega),a1,Array.getElem?_push,if_pos (by simp only[hz])]
 ·rw[a1,Array.getElem?_push,if_neg (by simp only[hz];omega),a1,Array.getElem?_push,if_neg (by simp only[hz];omega),a1,Array.getElem?_push,if_pos (by simp only[hz])]
 ·exact ((((((Below.refl _ w).alloc (Nat.le_refl _) _).alloc (by simp only[hz];omega) _).alloc (by simp only[hz];omega) _).alloc (by simp only[hz];omega) _).alloc (by simp only[hz];omega) _).alloc (by simp only[hz];omega) _
end Go.Proofs.YtkalonhalhdlaaaGreatDoor
