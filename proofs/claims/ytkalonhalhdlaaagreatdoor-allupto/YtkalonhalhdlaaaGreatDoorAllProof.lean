/-
  For every script of bulk at most 1048576 the call of All returns true, and the script reads afterwards as it read before; the table of controls lies as the program's text lays it, and is tied to it.
-/
import Derived.Test.YtkalonhalhdlaaaGreatDoorCards
import Derived.Test.YtkalonhalhdlaaaGreatDoorTie
import Derived.Test.YtkalonhalhdlaaaGreatDoorG41
import Derived.Deep.DeepHandedRow
set_option maxRecDepth 100000
namespace Go.Proofs.YtkalonhalhdlaaaGreatDoor
open Go.ChangeShapes Go.WideShapes Go.ChangeAt Go.RowKit
theorem XhW:laidOutB Tryz.prog=true:=by kernel_rfl
theorem XjA:∀(l:List Nat) (n:Nat),n∈l→n≤l.sum:=by
 intro l;induction l with
 |nil=>intro n h;simp at h
 |cons x r ih=>
  intro n h;simp only[List.sum_cons];rcases List.mem_cons.1 h with rfl|h
  ·omega
  ·have:=ih n h;omega
theorem XlB {H:Type}{enc:TypeId×Value→H}{w:World}{base:Nat}{sp:Nat→Bool}{held:Bool}{fuel:Nat}{a:Option Addr}{len cap:Nat}{x:DataW H×List MemPlace}(h:DataW.trod enc Tryz.prog w base sp held fuel 22 [.slice a len cap]=some x)(hN:Rows.uptoBulk x.1≤1048576):
  ∃(os:List OpV) (ns:List Nat),Script w a len cap os∧ns.length=len∧ns.sum≤1048576∧21*len≤1048576∧∀(i:Nat) (o:OpV) (n:Nat),os[i]?=some o→ns[i]?=some n→J6 w n o:=by
 obtain⟨os,h1,h2,h3,h4,ns,h5,h6,h7⟩:=Xll h;refine⟨os,ns,⟨h1,Nat.le_trans h3 hN,h2,fun ad e j v hj=> ?_,fun o ho=> ?_⟩,h5,Nat.le_trans h6 hN,Nat.le_trans (Xok h) hN,h7⟩
 ·rcases h4 with h0|⟨b,off,e2,_,h6⟩
  ·have:os=[]:=List.length_eq_zero_iff.1 (h1.trans h0);subst this;simp[X6]at hj
  ·rw[e2]at e;cases e
   rw[add_plain];exact h6 j v hj
 ·obtain ⟨i,hi⟩:=List.getElem?_of_mem ho;have hl:=(List.getElem?_eq_some_iff.1 hi).1;obtain⟨n,hn⟩:∃n,ns[i]?=some n:=⟨_,List.getElem?_eq_getElem (by omega)⟩;rcases(h7 i o n hi hn).lv with e|⟨a,l,c,e,_⟩ <;> rw[e] <;> rfl
theorem XfZ (H:Type)(enc:TypeId×Value→H)(W:World)(base:Nat)(args:Array Value)(ds gs:List (DataW H))(before:List MemPlace)
  (hval0:∀(j:Nat) t v,Tryz.f7.params[j]?=some t→args[j]?=some v→Value.okWide Tryz.prog W .any base t v)
  (hW : DataW.Whole enc Tryz.prog Tryz.f7.params.toList Rows.allSpec.vars false W args.toList ds gs before) (hk : Rows.uptoSmall H (ds ++ gs) = true) (hL : laidMetH Tryz.prog [("tether/tether.controls", Rows.laid_tether_tether_controls)] W) :
  Calls Tryz.prog 7 args W fun e W'=>∃v,e=.returned v∧Rows.allSpec.post enc Tryz.prog Tryz.f7 false true false false W args v W':=by
 have hval:∀(j:Nat) t v,Tryz.f7.params[j]?=some t→args[j]?=some v→Value.okWide Tryz.prog W .any base t v:=hval0;have hW':=hW;obtain⟨p,q,hA0,hV,rfl,hfz,hnd⟩:=hW;have hA:DataW.TrodAll enc Tryz.prog W 0 (fun _=>true) true Tryz.f7.params.toList args.toList ds p:=hA0;rw[Tryz.params7]at hA hval;obtain⟨v0,vs0,d0,ds0,p0,q0,hargs,rfl,rfl,h0,r0⟩:=trodAll_cons hA;obtain⟨rfl,rfl,rfl⟩:=trodAll_nil r0;obtain rfl:args= #[v0]:=by cases args;simp_all
 obtain⟨rfl,rfl⟩:=trodVars_none hV;have k0:=h0;have lt0:∀x∈p0,x.block<W.heap.size:=by obtain⟨m,hm⟩:=k0;exact DataW.trod_lt m _ _ _ hm
 obtain⟨a0,len0,cap0,rfl⟩:=okWide_slice Tryz.underlying22 (hval 0 22 v0 rfl rfl)
 have hbulk:Rows.uptoBulk d0≤1048576:=by
  have h:=of_decide_eq_true hk;simp only[List.append_nil,Rows.uptoBulkAll]at h;omega
 obtain⟨os,ns,hs,hn1,hn2,hl21,ho⟩:∃(os:List OpV) (ns:List Nat),Script W a0 len0 cap0 os∧ns.length=len0∧ns.sum≤1048576∧21*len0≤1048576∧∀(i:Nat) (o:OpV) (n:Nat),os[i]?=some o→ns[i]?=some n→J6 W n o:=by
  obtain⟨fuel,hf⟩:=h0;exact XlB hf hbulk
 have hnm:∀n∈ns,n≤1048576:=fun n hn=>Nat.le_trans (XjA ns n hn) hn2
 clear hA0 hval0;obtain⟨hC,hsz⟩:=of_laid hL
 have hos:∀o∈os,OpS W o:=fun o hm=>by
  obtain⟨i,hi⟩:=List.getElem?_of_mem hm;have hl:=(List.getElem?_eq_some_iff.1 hi).1;have hsl:=hs.hlen;obtain⟨n,hn⟩:∃n,ns[i]?=some n:=⟨_,List.getElem?_eq_getElem (by omega)⟩;exact(ho i o n hi hn).XiR (hnm n (List.mem_of_getElem? hn))
 have hof:∀o∈os,Jv W o:=fun o hm=>by
  obtain⟨i,hi⟩:=List.getElem?_of_mem hm;have hl:=(List.getElem?_eq_some_iff.1 hi).1;have hsl:=hs.hlen;obtain⟨n,hn⟩:∃n,ns[i]?=some n:=⟨_,List.getElem?_eq_getElem (by omega)⟩;exact(ho i o n hi hn).fit (hnm n (List.mem_of_getElem? hn))
 refine(XnV hs hl21 hn1 hn2 (fun i o n h1 h2=>(ho i o n h1 h2).line (hnm n (List.mem_of_getElem? h2))) hof hos hnm hC hsz).mono fun e W' ⟨he,bel⟩=> ?_
 subst he;exact⟨_,rfl,_,_,_,[],_,[],hW',trodAll_mk1 (shut_bool Tryz.underlying4 _),(trodAll_cons_mk (Below.trod XhW (by kernel_rfl) (of_decide_eq_true (by kernel_rfl)) k0 bel lt0) trodAll_mk0),rfl,bel.frame _,fun h=>by cases h⟩
theorem XnW (os:Os):laidMet Tryz.prog Rows.allUptoRow.laid ((World.doorLaid Tryz.prog 400 os).forCall (fun _ _=>0) ⟨#[], #[.slice none 0 0],[]⟩).memory:=
 laidMet_of_run' 8 (by kernel_rfl) (by kernel_rfl)
theorem Xkw (os:Os){H:Type}(enc:TypeId×Value→H):∃places,DataW.whole enc Tryz.prog ((World.doorLaid Tryz.prog 400 os).forCall (fun _ _=>0) ⟨#[], #[.slice none 0 0],[]⟩).memory Tryz.f7.params.toList Rows.allSpec.vars false #[Value.slice none 0 0].toList 8=some ([.nil],[],places):=
 ⟨[],by kernel_rfl⟩
theorem all_lifted (os:Os)(started:os.Started)(H:Type)(enc:TypeId×Value→H)(F:Stop.Interp):
  ReturnsInHanded {} Tryz.checked os 7 .any ((Rows.OpenSpec.upto Rows.allSpec).preRow enc Tryz.prog Tryz.f7 Rows.allUptoRow.domain false Rows.allUptoRow.laid) (((Rows.OpenSpec.upto Rows.allSpec).at F).post enc Tryz.prog Tryz.f7 false true false false):=by
 obtain⟨places,hx⟩:=Xkw os enc
 refine returnsInHanded_of_row (C:=Tryz.checked) (s:=Rows.OpenSpec.upto Rows.allSpec) Xob started (by kernel_rfl) Tryz.func7
  (witness_row_at (enc:=enc) (C:=Tryz.checked) false (World.doorLaid Tryz.prog 400 os) #[.slice none 0 0] rfl (by kernel_rfl) (by kernel_rfl) (by kernel_rfl)
   (OpenSpec.preRow_of_cond 8 hx (by kernel_rfl) (fun k hk=>by cases hk;kernel_rfl) (by kernel_rfl) (XnW os))) ?_
 intro W base args ds gs before hval hW _ hcond _ hL _ _;exact XfZ H enc W base args ds gs before hval hW (hcond _ rfl) hL
theorem XnX:Rows.AllUptoSaid:=
 OpenClaim.holds_of_cond 7 Tryz.f7 rfl rfl rfl rfl rfl rfl rfl ⟨rfl,rfl,rfl,rfl,rfl⟩ rfl rfl rfl rfl rfl (by kernel_rfl) Tryz.func7 (by kernel_rfl)
  (of_decide_eq_true (by kernel_rfl)) (by unfold Func.isWrapper;first|(rw[if_pos (by decide +kernel)];kernel_rfl)|(rw[if_neg (by decide +kernel)];exact⟨rfl,rfl⟩))
  (fun os started H enc _ F=>by rw[OpenClaim.pre_eq_preRow];exact all_lifted os started H enc F)
theorem Xkv (f : FuncId) (fn : Func) (hf : Tryz.pinned.checked.prog.funcNamed "tether/tetherlaw.All" = some f) (hfn : Tryz.pinned.checked.prog.funcs[f]? = some fn) :
  false=Tryz.pinned.checked.prog.looks []∧∀(j:Nat) t,fn.params[j]?=some t→Tryz.pinned.checked.prog.wantsStandIn t=false:=by
 obtain rfl : f = 7 := Option.some.inj ((show Tryz.prog.funcNamed "tether/tetherlaw.All" = some 7 by kernel_rfl).symm.trans hf) |>.symm
 obtain rfl:fn=Tryz.f7:=(Option.some.inj (Tryz.func7.symm.trans hfn)).symm;refine⟨by kernel_rfl,fun j t ht=> ?_⟩;rw[Tryz.params7]at ht;obtain rfl:t=22:=by simpa using Array.mem_of_getElem? ht
 exact(show Tryz.prog.wantsStandIn 22=false by kernel_rfl)
theorem all_holds:Rows.AllUptoCardSaid:=
 Claim7.holds_tied_plain_at .later [] _ _ _ _ XnX (fun _ h=>by cases h) (by kernel_rfl) (fun _ h=>by cases h) allUpto_row_tie rfl ⟨rfl,rfl⟩ (by kernel_rfl) rfl Xkv (by kernel_rfl)
#print axioms all_holds
end Go.Proofs.YtkalonhalhdlaaaGreatDoor
