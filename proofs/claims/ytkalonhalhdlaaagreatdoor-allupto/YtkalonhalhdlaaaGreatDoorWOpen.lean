import Derived.Test.YtkalonhalhdlaaaGreatDoorG15
namespace Go.Proofs.YtkalonhalhdlaaaGreatDoor
open Go.ChangeShapes Go.WideShapes Go.ChangeAt Go.RowKit
section
variable {H:Type}{enc:TypeId×Value→H}{w:World}{base:Nat}{sp:Nat→Bool}{held:Bool}
theorem XkT {fuel:Nat}{cs:List Value}{x:DataW H×List MemPlace}(h:DataW.trod enc Tryz.prog w base sp held fuel 30 cs=some x):7≤Rows.uptoBulk x.1:=by
 obtain⟨xs,n,_,hx,hl,hlen,hf⟩:=DataW.trod_struct Tryz.underlying30 h;have hx6:xs.length=6:=hlen;rw[hx];have:=QJ (xs.map (·.1));rw[List.length_map]at this;show 7≤Rows.uptoBulkAll _+1
 omega
theorem Xja {fuel:Nat}{cs:List Value}{x:DataW H×List MemPlace}(h:DataW.trod enc Tryz.prog w base sp held fuel 32 cs=some x):7≤Rows.uptoBulk x.1:=by
 obtain⟨xs,n,_,hx,hl,hlen,hf⟩:=DataW.trod_struct Tryz.underlying32 h;have hx6:xs.length=6:=hlen;rw[hx];have:=QJ (xs.map (·.1));rw[List.length_map]at this;show 7≤Rows.uptoBulkAll _+1
 omega
theorem XoU {fuel:Nat}{cs:List Value}{x:DataW H×List MemPlace}(h:DataW.trod enc Tryz.prog w base sp held fuel 34 cs=some x):21≤Rows.uptoBulk x.1:=by
 obtain⟨xs,n,_,hx,hl,hlen,hf⟩:=DataW.trod_struct Tryz.underlying34 h;have hx8:xs.length=8:=hlen;obtain⟨x0,x1,x2,x3,x4,x5,x6,x7,rfl⟩:=XnP hx8;have h6:DataW.trod enc Tryz.prog w base sp held n 30 ((cs.drop 6).take (Tryz.prog.cellsOf 30))=some x6:=hf 6 _ rfl;have h7:DataW.trod enc Tryz.prog w base sp held n 32 ((cs.drop 12).take (Tryz.prog.cellsOf 32))=some x7:=hf 7 _ rfl;have b6:=XkT h6;have b7:=Xja h7;have b0:=Jw x0.1;have b1:=Jw x1.1;have b2:=Jw x2.1;have b3:=Jw x3.1;have b4:=Jw x4.1;have b5:=Jw x5.1;rw[hx];show 21≤Rows.uptoBulkAll _+1
 simp only[List.map_cons,List.map_nil,Rows.uptoBulkAll];omega
theorem Xow:∀(l:List Nat) (k:Nat),(∀ n∈l,k≤n)→k*l.length≤l.sum:=by
 intro l k h;induction l with
 |nil=>simp
 |cons x r ih=>
  have h1:=h x (by simp);have h2:=ih (fun n hn=>h n (by simp[hn]));simp only[List.length_cons,List.sum_cons,Nat.mul_add];omega
theorem Xok {fuel:Nat}{a:Option Addr}{len cap:Nat}{x:DataW H×List MemPlace}(h:DataW.trod enc Tryz.prog w base sp held fuel 22 [.slice a len cap]=some x):21*len≤Rows.uptoBulk x.1:=by
 rcases DataW.trod_slice Tryz.underlying22 h with⟨hcs,rfl⟩|⟨a0,len0,cap0,elems,rest,n,_,hcs,hx,_,_,_,hlen,hel,_⟩
 ·simp at hcs;obtain⟨rfl,rfl,rfl⟩:=hcs;simp
 ·simp at hcs;obtain⟨rfl,rfl,rfl⟩:=hcs;rw[hx];have hs:=Xf1 (elems.map (·.1));rw[List.map_map]at hs
  have hb:=Xow (elems.map (Rows.uptoBulk ∘ (·.1))) 21 (fun m hm=>by
   obtain⟨y,hy,rfl⟩:=List.mem_map.1 hm;obtain⟨i,hi⟩:=List.getElem?_of_mem hy;have hil:=(List.getElem?_eq_some_iff.1 hi).1;have hE:=hel i (by omega);rw[hi]at hE;obtain⟨cs,h1,h2⟩:=Option.bind_eq_some_iff.1 hE;exact XoU h2)
  rw[List.length_map,hlen]at hb;show _≤Rows.uptoBulkAll _+Rows.uptoBulkAll _+1
  omega
end
end Go.Proofs.YtkalonhalhdlaaaGreatDoor
