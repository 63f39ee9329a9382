import Derived.Test.YtkalonhalhdlaaaGreatDoorG08
set_option maxHeartbeats 4000000
set_option maxRecDepth 100000
namespace Go.Proofs.YtkalonhalhdlaaaGreatDoor
open Go.RowKit
section
variable {w W:World}{own:Nat→Nat}{i b:Nat}{c:Cfg}{s:St}{cl:Bool}{ch:Nat}{q cm o ev:Value}{qe ce oe:List Value}
theorem Xer (h:SAt w own i b c s cl ch q cm o ev qe ce oe)(fa fns:Int)(fp:Bool)(nr:Nat)(info:Msg)(fq:Option Addr)(fc:Nat)(hnr:nr<c.m)(hl:s.out.length≤2199023255552):
  Calls Tryz.prog 170 #[.pointer (some ⟨b,0,none⟩),frV ⟨fa,2,fp,fns,(nr:Nat),info⟩ fq fc] w fun e w'=>Did i b c (Xn c ⟨fa,2,fp,fns,(nr:Nat),info⟩ s) cl own w e w':=by
 have hlt:=h.lt;have c16:=h.XaS;have c8:=h.Xas;have fz:=h.fz;have hsk:=h.sok;have hS:Xb (· =b) w (w.setCell ⟨b,16,none⟩ (.bool false)):=(Xb.refl _ _).setB 16 (.bool false);have h0:=h.wrote (s':={s with peer:=false}) hS (h.hd.peer false) rfl rfl rfl rfl ⟨hsk.state,hsk.vs,hsk.va,hsk.vr,hsk.vm,hsk.q20,hsk.q32,hsk.timer,hsk.tries,hsk.came⟩;have h1:=h0.later (w':=((w.setCell ⟨b,16,none⟩ (.bool false)).alloc (.cells #[.int .i64 fa,.int .i64 (2:Int),.bool fp,.int .i64 fns,.int .i64 (nr:Nat),.slice fq info.length fc] 30))) ((Below.refl _ _).alloc (Nat.le_refl _) _);have u1:Upd i own own w ((w.setCell ⟨b,16,none⟩ (.bool false)).alloc (.cells #[.int .i64 fa,.int .i64 (2:Int),.bool fp,.int .i64 fns,.int .i64 (nr:Nat),.slice fq info.length fc] 30)):=(h.upd hS).trans (Upd.of ((Below.refl _ _).alloc (Nat.le_refl _) _) (Upd.refl _ _ _));have hsz0:(w.setCell ⟨b,16,none⟩ (.bool false)).heap.size=w.heap.size:=by rw[size_setCell]
 have hbx:((w.setCell ⟨b,16,none⟩ (.bool false)).alloc (.cells #[.int .i64 fa,.int .i64 (2:Int),.bool fp,.int .i64 fns,.int .i64 (nr:Nat),.slice fq info.length fc] 30)).heap[w.heap.size]?=some (.cells #[.int .i64 fa,.int .i64 (2:Int),.bool fp,.int .i64 fns,.int .i64 (nr:Nat),.slice fq info.length fc] 30):=by rw[← hsz0];exact Xg _ _
 have hltx:w.heap.size<((w.setCell ⟨b,16,none⟩ (.bool false)).alloc (.cells #[.int .i64 fa,.int .i64 (2:Int),.bool fp,.int .i64 fns,.int .i64 (nr:Nat),.slice fq info.length fc] 30)).heap.size:=by rw[Xk,hsz0];omega
 have hdef:Xn c (⟨fa,2,fp,fns,(nr:Nat),info⟩:Fr) s=if fp=false then {s with peer:=false} else if X8 c (⟨fa,2,fp,fns,(nr:Nat),info⟩:Fr)then answer c true {s with peer:=false} else if s.Xh then { {s with peer:=false} with Xh:=false,vs:=nr,timer:=0} else {s with peer:=false}:=by
  unfold Xn;simp
 have hk:=ZH h1 (⟨fa,2,fp,fns,(nr:Nat),info⟩:Fr) fq fc;unfold frV at hk⊢;simp only at hk hbx⊢;generalize hx:X8 c (⟨fa,2,fp,fns,(nr:Nat),info⟩:Fr)=x at hk hdef;have K2:=hide hk;have H1:=hide h1;have U1:=hide u1;have BX:=hide hbx;have HD:=hide hdef;clear h h0 h1 u1 hk hdef hbx hS hx hsk hsz0;have hne:w.heap.size≠b:=by omega
 cases fp with
 |false=>
  have HD2:=hide ((Xa HD).trans (if_pos rfl));clear HD K2;go_enter Tryz.func170,Tryz.ntmps170
  go_wp2
  first|go_end0|refine bodyPost_ret (results_none rfl _ _ _) rfl ?_
  rw[Xa HD2];exact⟨rfl,own,⟨_,_,_,_,_,_,_,_,Xa H1⟩,Xa U1⟩
 |true=>
  have HD1:=hide ((Xa HD).trans (if_neg (by simp)));clear HD;cases x with
  |true=>
   have HD2:=hide ((Xa HD1).trans (if_pos rfl));clear HD1;go_enter Tryz.func170,Tryz.ntmps170
   go_wp2_with fail
   refine(Xa K2).mono ?_;rintro e w2 ⟨rfl,hb⟩;have K4:=hide (Q7 ((Xa H1).later hb) true hl);have U2:=hide ((Xa U1).trans (Upd.of hb (Upd.refl i own w2)));clear hb K2 BX U1 H1;go_wp2_with fail
   refine(Xa K4).mono ?_;rintro e w3 ⟨rfl,own3,h3,u3⟩;have HR:=hide (And.intro h3 ((Xa U2).trans u3));clear h3 u3 K4 U2;go_wp2
   first|go_end0|refine bodyPost_ret (results_none rfl _ _ _) rfl ?_
   rw[Xa HD2];exact⟨rfl,own3,(Xa HR).1,(Xa HR).2⟩
  |false=>
   have HD3:=hide ((Xa HD1).trans (if_neg (by simp)));clear HD1;by_cases hp:s.Xh=true
   ·have HD2:=hide ((Xa HD3).trans (if_pos hp));clear HD3;go_enter Tryz.func170,Tryz.ntmps170
    go_wp2_with fail
    refine(Xa K2).mono ?_;rintro e w2 ⟨rfl,hb⟩;have h2:=(Xa H1).later hb;have d15:w2.cell? ⟨b,15,none⟩=some (.bool true):=by have:=h2.Zz;rw[this];exact congrArg (fun x=>some (Value.bool x)) hp
    have K4:=hide (J9 h2 nr hnr);have U2:=hide ((Xa U1).trans (Upd.of hb (Upd.refl i own w2)));obtain⟨z0,z1,z2,z3,z4,z5⟩:=Xt ((hb.block w.heap.size hltx).trans (Xa BX));clear hb K2 BX U1 H1 h2 hp;go_wp2_with fail
    refine(Xa K4).mono ?_;rintro e w3 ⟨rfl,own3,h3,u3⟩;have HR:=hide (And.intro h3 ((Xa U2).trans u3));clear h3 u3 K4 U2;go_wp2
    first|go_end0|refine bodyPost_ret (results_none rfl _ _ _) rfl ?_
    rw[Xa HD2];exact⟨rfl,own3,(Xa HR).1,(Xa HR).2⟩
   ·have HD2:=hide ((Xa HD3).trans (if_neg hp));have hp':s.Xh=false:=eq_false_of_ne_true hp;clear HD3;go_enter Tryz.func170,Tryz.ntmps170
    go_wp2_with fail
    refine(Xa K2).mono ?_;rintro e w2 ⟨rfl,hb⟩;have h2:=(Xa H1).later hb;have d15:w2.cell? ⟨b,15,none⟩=some (.bool false):=by have:=h2.Zz;rw[this];exact congrArg (fun x=>some (Value.bool x)) hp'
    have HR:=hide (And.intro h2 ((Xa U1).trans (Upd.of hb (Upd.refl i own w2))));clear hb K2 BX U1 H1 h2 hp hp';go_wp2
    first|go_end0|refine bodyPost_ret (results_none rfl _ _ _) rfl ?_
    rw[Xa HD2];exact⟨rfl,own,⟨_,_,_,_,_,_,_,_,(Xa HR).1⟩,(Xa HR).2⟩
theorem Xes (h:SAt w own i b c s cl ch q cm o ev qe ce oe)(fa fns:Int)(fp:Bool)(nr:Nat)(info:Msg)(fq:Option Addr)(fc:Nat)(hnr:nr<c.m)(hl:s.out.length≤2199023255552):
  Calls Tryz.prog 170 #[.pointer (some ⟨b,0,none⟩),frV ⟨fa,3,fp,fns,(nr:Nat),info⟩ fq fc] w fun e w'=>Did i b c (Xn c ⟨fa,3,fp,fns,(nr:Nat),info⟩ s) cl own w e w':=by
 have hlt:=h.lt;have c16:=h.XaS;have c8:=h.Xas;have fz:=h.fz;have hsk:=h.sok;have hS:Xb (· =b) w (w.setCell ⟨b,16,none⟩ (.bool true)):=(Xb.refl _ _).setB 16 (.bool true);have h0:=h.wrote (s':={s with peer:=true}) hS (h.hd.peer true) rfl rfl rfl rfl ⟨hsk.state,hsk.vs,hsk.va,hsk.vr,hsk.vm,hsk.q20,hsk.q32,hsk.timer,hsk.tries,hsk.came⟩;have h1:=h0.later (w':=((w.setCell ⟨b,16,none⟩ (.bool true)).alloc (.cells #[.int .i64 fa,.int .i64 (3:Int),.bool fp,.int .i64 fns,.int .i64 (nr:Nat),.slice fq info.length fc] 30))) ((Below.refl _ _).alloc (Nat.le_refl _) _);have u1:Upd i own own w ((w.setCell ⟨b,16,none⟩ (.bool true)).alloc (.cells #[.int .i64 fa,.int .i64 (3:Int),.bool fp,.int .i64 fns,.int .i64 (nr:Nat),.slice fq info.length fc] 30)):=(h.upd hS).trans (Upd.of ((Below.refl _ _).alloc (Nat.le_refl _) _) (Upd.refl _ _ _));have hsz0:(w.setCell ⟨b,16,none⟩ (.bool true)).heap.size=w.heap.size:=by rw[size_setCell]
 have hbx:((w.setCell ⟨b,16,none⟩ (.bool true)).alloc (.cells #[.int .i64 fa,.int .i64 (3:Int),.bool fp,.int .i64 fns,.int .i64 (nr:Nat),.slice fq info.length fc] 30)).heap[w.heap.size]?=some (.cells #[.int .i64 fa,.int .i64 (3:Int),.bool fp,.int .i64 fns,.int .i64 (nr:Nat),.slice fq info.length fc] 30):=by rw[← hsz0];exact Xg _ _
 have hltx:w.heap.size<((w.setCell ⟨b,16,none⟩ (.bool true)).alloc (.cells #[.int .i64 fa,.int .i64 (3:Int),.bool fp,.int .i64 fns,.int .i64 (nr:Nat),.slice fq info.length fc] 30)).heap.size:=by rw[Xk,hsz0];omega
 have hdef:Xn c (⟨fa,3,fp,fns,(nr:Nat),info⟩:Fr) s=if fp=false then {s with peer:=true} else if X8 c (⟨fa,3,fp,fns,(nr:Nat),info⟩:Fr)then answer c true {s with peer:=true} else if s.Xh then { {s with peer:=true} with Xh:=false,vs:=nr,timer:=0} else {s with peer:=true}:=by
  unfold Xn;simp
 have hk:=ZH h1 (⟨fa,3,fp,fns,(nr:Nat),info⟩:Fr) fq fc;unfold frV at hk⊢;simp only at hk hbx⊢;generalize hx:X8 c (⟨fa,3,fp,fns,(nr:Nat),info⟩:Fr)=x at hk hdef;have K2:=hide hk;have H1:=hide h1;have U1:=hide u1;have BX:=hide hbx;have HD:=hide hdef;clear h h0 h1 u1 hk hdef hbx hS hx hsk hsz0;have hne:w.heap.size≠b:=by omega
 cases fp with
 |false=>
  have HD2:=hide ((Xa HD).trans (if_pos rfl));clear HD K2;go_enter Tryz.func170,Tryz.ntmps170
  go_wp2
  first|go_end0|refine bodyPost_ret (results_none rfl _ _ _) rfl ?_
  rw[Xa HD2];exact⟨rfl,own,⟨_,_,_,_,_,_,_,_,Xa H1⟩,Xa U1⟩
 |true=>
  have HD1:=hide ((Xa HD).trans (if_neg (by simp)));clear HD;cases x with
  |true=>
   have HD2:=hide ((Xa HD1).trans (if_pos rfl));clear HD1;go_enter Tryz.func170,Tryz.ntmps170
   go_wp2_with fail
   refine(Xa K2).mono ?_;rintro e w2 ⟨rfl,hb⟩;have K4:=hide (Q7 ((Xa H1).later hb) true hl);have U2:=hide ((Xa U1).trans (Upd.of hb (Upd.refl i own w2)));clear hb K2 BX U1 H1;go_wp2_with fail
   refine(Xa K4).mono ?_;rintro e w3 ⟨rfl,own3,h3,u3⟩;have HR:=hide (And.intro h3 ((Xa U2).trans u3));clear h3 u3 K4 U2;go_wp2
   first|go_end0|refine bodyPost_ret (results_none rfl _ _ _) rfl ?_
   rw[Xa HD2];exact⟨rfl,own3,(Xa HR).1,(Xa HR).2⟩
  |false=>
   have HD3:=hide ((Xa HD1).trans (if_neg (by simp)));clear HD1;by_cases hp:s.Xh=true
   ·have HD2:=hide ((Xa HD3).trans (if_pos hp));clear HD3;go_enter Tryz.func170,Tryz.ntmps170
    go_wp2_with fail
    refine(Xa K2).mono ?_;rintro e w2 ⟨rfl,hb⟩;have h2:=(Xa H1).later hb;have d15:w2.cell? ⟨b,15,none⟩=some (.bool true):=by have:=h2.Zz;rw[this];exact congrArg (fun x=>some (Value.bool x)) hp
    have K4:=hide (J9 h2 nr hnr);have U2:=hide ((Xa U1).trans (Upd.of hb (Upd.refl i own w2)));obtain⟨z0,z1,z2,z3,z4,z5⟩:=Xt ((hb.block w.heap.size hltx).trans (Xa BX));clear hb K2 BX U1 H1 h2 hp;go_wp2_with fail
    refine(Xa K4).mono ?_;rintro e w3 ⟨rfl,own3,h3,u3⟩;have HR:=hide (And.intro h3 ((Xa U2).trans u3));clear h3 u3 K4 U2;go_wp2
    first|go_end0|refine bodyPost_ret (results_none rfl _ _ _) rfl ?_
    rw[Xa HD2];exact⟨rfl,own3,(Xa HR).1,(Xa HR).2⟩
   ·have HD2:=hide ((Xa HD3).trans (if_neg hp));have hp':s.Xh=false:=eq_false_of_ne_true hp;clear HD3;go_enter Tryz.func170,Tryz.ntmps170
    go_wp2_with fail
    refine(Xa K2).mono ?_;rintro e w2 ⟨rfl,hb⟩;have h2:=(Xa H1).later hb;have d15:w2.cell? ⟨b,15,none⟩=some (.bool false):=by have:=h2.Zz;rw[this];exact congrArg (fun x=>some (Value.bool x)) hp'
    have HR:=hide (And.intro h2 ((Xa U1).trans (Upd.of hb (Upd.refl i own w2))));clear hb K2 BX U1 H1 h2 hp hp';go_wp2
    first|go_end0|refine bodyPost_ret (results_none rfl _ _ _) rfl ?_
    rw[Xa HD2];exact⟨rfl,own,⟨_,_,_,_,_,_,_,_,(Xa HR).1⟩,(Xa HR).2⟩
theorem Xet (h:SAt w own i b c s cl ch q cm o ev qe ce oe)(fa fns:Int)(fp:Bool)(nr:Nat)(info:Msg)(fq:Option Addr)(fc:Nat)(hnr:nr<c.m)(hl:s.out.length≤2199023255552):
  Calls Tryz.prog 170 #[.pointer (some ⟨b,0,none⟩),frV ⟨fa,4,fp,fns,(nr:Nat),info⟩ fq fc] w fun e w'=>Did i b c (Xn c ⟨fa,4,fp,fns,(nr:Nat),info⟩ s) cl own w e w':=by
 have hlt:=h.lt;have c16:=h.XaS;have c8:=h.Xas;have fz:=h.fz;have hsk:=h.sok;have hS:Xb (· =b) w ((w.setCell ⟨b,16,none⟩ (.bool false)).setCell ⟨b,8,none⟩ (.int .i64 (nr:Nat))):=((Xb.refl _ _).setB 16 (.bool false)).setB 8 (.int .i64 (nr:Nat));have h0:=h.wrote (s':={s with peer:=false,vs:=nr}) hS ((h.hd.peer false).vs nr) rfl rfl rfl rfl ⟨hsk.state,hnr,hsk.va,hsk.vr,hsk.vm,hsk.q20,hsk.q32,hsk.timer,hsk.tries,hsk.came⟩;have h1:=h0.later (w':=(((w.setCell ⟨b,16,none⟩ (.bool false)).setCell ⟨b,8,none⟩ (.int .i64 (nr:Nat))).alloc (.cells #[.int .i64 fa,.int .i64 (4:Int),.bool fp,.int .i64 fns,.int .i64 (nr:Nat),.slice fq info.length fc] 30))) ((Below.refl _ _).alloc (Nat.le_refl _) _);have u1:Upd i own own w (((w.setCell ⟨b,16,none⟩ (.bool false)).setCell ⟨b,8,none⟩ (.int .i64 (nr:Nat))).alloc (.cells #[.int .i64 fa,.int .i64 (4:Int),.bool fp,.int .i64 fns,.int .i64 (nr:Nat),.slice fq info.length fc] 30)):=(h.upd hS).trans (Upd.of ((Below.refl _ _).alloc (Nat.le_refl _) _) (Upd.refl _ _ _));have hsz0:((w.setCell ⟨b,16,none⟩ (.bool false)).setCell ⟨b,8,none⟩ (.int .i64 (nr:Nat))).heap.size=w.heap.size:=by rw[size_setCell,size_setCell]
 have hbx:(((w.setCell ⟨b,16,none⟩ (.bool false)).setCell ⟨b,8,none⟩ (.int .i64 (nr:Nat))).alloc (.cells #[.int .i64 fa,.int .i64 (4:Int),.bool fp,.int .i64 fns,.int .i64 (nr:Nat),.slice fq info.length fc] 30)).heap[w.heap.size]?=some (.cells #[.int .i64 fa,.int .i64 (4:Int),.bool fp,.int .i64 fns,.int .i64 (nr:Nat),.slice fq info.length fc] 30):=by rw[← hsz0];exact Xg _ _
 have hltx:w.heap.size<(((w.setCell ⟨b,16,none⟩ (.bool false)).setCell ⟨b,8,none⟩ (.int .i64 (nr:Nat))).alloc (.cells #[.int .i64 fa,.int .i64 (4:Int),.bool fp,.int .i64 fns,.int .i64 (nr:Nat),.slice fq info.length fc] 30)).heap.size:=by rw[Xk,hsz0];omega
 have hdef:Xn c (⟨fa,4,fp,fns,(nr:Nat),info⟩:Fr) s=if fp=false then {s with peer:=false,vs:=nr} else if X8 c (⟨fa,4,fp,fns,(nr:Nat),info⟩:Fr)then answer c true {s with peer:=false,vs:=nr} else if s.Xh then { {s with peer:=false,vs:=nr} with Xh:=false,vs:=nr,timer:=0} else {s with peer:=false,vs:=nr}:=by
  unfold Xn;simp
 have hk:=ZH h1 (⟨fa,4,fp,fns,(nr:Nat),info⟩:Fr) fq fc;unfold frV at hk⊢;simp only at hk hbx⊢;generalize hx:X8 c (⟨fa,4,fp,fns,(nr:Nat),info⟩:Fr)=x at hk hdef;have K2:=hide hk;have H1:=hide h1;have U1:=hide u1;have BX:=hide hbx;have HD:=hide hdef;clear h h0 h1 u1 hk hdef hbx hS hx hsk hsz0;have hne:w.heap.size≠b:=by omega
 cases fp with
 |false=>
  have HD2:=hide ((Xa HD).trans (if_pos rfl));clear HD K2;go_enter Tryz.func170,Tryz.ntmps170
  go_wp2
  first|go_end0|refine bodyPost_ret (results_none rfl _ _ _) rfl ?_
  rw[Xa HD2];exact⟨rfl,own,⟨_,_,_,_,_,_,_,_,Xa H1⟩,Xa U1⟩
 |true=>
  have HD1:=hide ((Xa HD).trans (if_neg (by simp)));clear HD;cases x with
  |true=>
   have HD2:=hide ((Xa HD1).trans (if_pos rfl));clear HD1;go_enter Tryz.func170,Tryz.ntmps170
   go_wp2_with fail
   refine(Xa K2).mono ?_;rintro e w2 ⟨rfl,hb⟩;have K4:=hide (Q7 ((Xa H1).later hb) true hl);have U2:=hide ((Xa U1).trans (Upd.of hb (Upd.refl i own w2)));clear hb K2 BX U1 H1;go_wp2_with fail
   refine(Xa K4).mono ?_;rintro e w3 ⟨rfl,own3,h3,u3⟩;have HR:=hide (And.intro h3 ((Xa U2).trans u3));clear h3 u3 K4 U2;go_wp2
   first|go_end0|refine bodyPost_ret (results_none rfl _ _ _) rfl ?_
   rw[Xa HD2];exact⟨rfl,own3,(Xa HR).1,(Xa HR).2⟩
  |false=>
   have HD3:=hide ((Xa HD1).trans (if_neg (by simp)));clear HD1;by_cases hp:s.Xh=true
   ·have HD2:=hide ((Xa HD3).trans (if_pos hp));clear HD3;go_enter Tryz.func170,Tryz.ntmps170
    go_wp2_with fail
    refine(Xa K2).mono ?_;rintro e w2 ⟨rfl,hb⟩;have h2:=(Xa H1).later hb;have d15:w2.cell? ⟨b,15,none⟩=some (.bool true):=by have:=h2.Zz;rw[this];exact congrArg (fun x=>some (Value.bool x)) hp
    have K4:=hide (J9 h2 nr hnr);have U2:=hide ((Xa U1).trans (Upd.of hb (Upd.refl i own w2)));obtain⟨z0,z1,z2,z3,z4,z5⟩:=Xt ((hb.block w.heap.size hltx).trans (Xa BX));clear hb K2 BX U1 H1 h2 hp;go_wp2_with fail
    refine(Xa K4).mono ?_;rintro e w3 ⟨rfl,own3,h3,u3⟩;have HR:=hide (And.intro h3 ((Xa U2).trans u3));clear h3 u3 K4 U2;go_wp2
    first|go_end0|refine bodyPost_ret (results_none rfl _ _ _) rfl ?_
    rw[Xa HD2];exact⟨rfl,own3,(Xa HR).1,(Xa HR).2⟩
   ·have HD2:=hide ((Xa HD3).trans (if_neg hp));have hp':s.Xh=false:=eq_false_of_ne_true hp;clear HD3;go_enter Tryz.func170,Tryz.ntmps170
    go_wp2_with fail
    refine(Xa K2).mono ?_;rintro e w2 ⟨rfl,hb⟩;have h2:=(Xa H1).later hb;have d15:w2.cell? ⟨b,15,none⟩=some (.bool false):=by have:=h2.Zz;rw[this];exact congrArg (fun x=>some (Value.bool x)) hp'
    have HR:=hide (And.intro h2 ((Xa U1).trans (Upd.of hb (Upd.refl i own w2))));clear hb K2 BX U1 H1 h2 hp hp';go_wp2
    first|go_end0|refine bodyPost_ret (results_none rfl _ _ _) rfl ?_
    rw[Xa HD2];exact⟨rfl,own,⟨_,_,_,_,_,_,_,_,(Xa HR).1⟩,(Xa HR).2⟩
end
theorem Q5 {P:Program}(w:World){ops:Array Oper}{o:Oper}{a:Act}{K:Act→World→Prop}{Q:Exit→Act→World→Prop}{E:Prop}(hgd:o.guard=none)(s x:Operand)(t:TypeId)
  (ho:o.op=.call {callee:=.builtin .append,args:= #[s,x],argTypes:= #[t,t]})
  (base:Nat) (e:TypeId) (i:TypeInfo) (z:Value) (size bytes:Nat) (ht:P.underlying t=some (.slice e)) (hi:P.info? e=some i) (hz:i.zero=some z)
  (hsize:i.size=size) (hby:i.bytes=bytes) (hzs:z.cells.size=size) (hsz:0<size)
  (v:Value) (n:Nat) (xs:List Value) (hs:a.eval s=v) (hown:w.ownsRow base e size v n xs)
  (ad:Addr) (m c:Nat) (news:List Value) (hx:a.eval x=.slice (some ad) m c) (hl:news.length=m*size) (hnews:∀j u,news[j]?=some u→w.cell? (ad.add j)=some u) (h1:∀u∈news,u.oneCell'=true)
  (h63:n+m≤maxLen) (hbytes:(n+m)*bytes≤140737488355328) (hbase:base≤w.heap.size)
  (h:∀v' w',w'.ownsRow base e size v' (n+m) (xs++news)→w.grownBy w' v.ownBlock→(v'.ownBlock=v.ownBlock∨v'.ownBlock=some w.heap.size)→K (a.put o.dst v') w'):
  if Region.wanted o (yielded ops a.tmps)=true then Oper.wp P o a w K Q else E:=by
 have hw:Region.wanted o (yielded ops a.tmps)=true:=by simp[Region.wanted,hgd]
 rw[if_pos hw];obtain⟨v',w',hr,h2,h3,_,h5⟩:=run_append_own_at (P:=P) w base t o.type e i z size bytes ht hi hz hsize hby hzs hsz v n xs hown ad m c news hl hnews h1 h63 hbytes hbase;unfold Oper.wp execOp;simp only[ho,resolve,invoke,builtin,Sem.run_bind,Sem.run_pure,Result.andThen_ok,List.map_toArray,List.map_cons,List.map_nil,hs,hx,hr];exact h v' w' h2 h3 h5
structure Zv (T:Option Nat)(i:Nat)(own own':Nat→Nat)(w w':World):Prop where
 keeps:Xb (fun k=>(∃ p,p<5∧own k=tg i p)∨some k=T) w w'
 same:∀k,k<w.heap.size→some k≠T→own' k=own k
def XbB (T:Option Nat)(i b:Nat)(c:Cfg)(s':St)(cl:Bool)(own:Nat→Nat)(w:World)(e:Ending)(w':World):Prop:=
 e=.returned (.tuple #[])∧∃own',Stn w' own' i b c s' cl∧Zv T i own own' w w'
theorem Upd.t {T:Option Nat}{i:Nat}{own own':Nat→Nat}{w w':World}(h:Upd i own own' w w'):Zv T i own own' w w':=⟨h.keeps.mono (fun _ hk=>.inl hk),fun k hk _=>h.same k hk⟩
theorem Did.t {T:Option Nat}{i b:Nat}{c:Cfg}{s':St}{cl:Bool}{own:Nat→Nat}{w:World}{e:Ending}{w':World}(h:Did i b c s' cl own w e w'):XbB T i b c s' cl own w e w':=⟨h.1,h.2.choose,h.2.choose_spec.1,h.2.choose_spec.2.t⟩
theorem Zv.trans {T:Option Nat}{i:Nat}{o1 o2 o3:Nat→Nat}{a b c:World}(h:Zv T i o1 o2 a b)(k:Upd i o2 o3 b c):Zv T i o1 o3 a c:=by
 refine⟨⟨k.keeps.os.trans h.keeps.os,k.keeps.tape.trans h.keeps.tape,k.keeps.output.trans h.keeps.output,Nat.le_trans h.keeps.size k.keeps.size,fun j hj hx=> ?_⟩,fun j hj hjT=>(k.same j (Nat.lt_of_lt_of_le hj h.keeps.size)).trans (h.same j hj hjT)⟩;refine(k.keeps.block j (Nat.lt_of_lt_of_le hj h.keeps.size) ?_).trans (h.keeps.block j hj hx);rintro⟨p,hp,e⟩;exact hx (.inl ⟨p,hp,(h.same j hj (fun e=>hx (.inr e))).symm.trans e⟩)
theorem Upd.JY {T:Option Nat}{i:Nat}{o1 o2 o3:Nat→Nat}{a b c:World}(h:Upd i o1 o2 a b)(k:Zv T i o2 o3 b c):Zv T i o1 o3 a c:=by
 refine⟨⟨k.keeps.os.trans h.keeps.os,k.keeps.tape.trans h.keeps.tape,k.keeps.output.trans h.keeps.output,Nat.le_trans h.keeps.size k.keeps.size,fun j hj hx=> ?_⟩,fun j hj hjT=>(k.same j (Nat.lt_of_lt_of_le hj h.keeps.size) hjT).trans (h.same j hj)⟩;refine(k.keeps.block j (Nat.lt_of_lt_of_le hj h.keeps.size) ?_).trans (h.keeps.block j hj (fun hh=>hx (.inl hh)));rintro(⟨p,hp,e⟩|e)
 ·exact hx (.inl ⟨p,hp,(h.same j hj).symm.trans e⟩)
 ·exact hx (.inr e)
theorem Zv.new {T:Option Nat}{i:Nat}{own own':Nat→Nat}{w W w':World}(hb:Below w.heap.size w W)(h:Zv T i own own' W w')(hT:∀k,T=some k→w.heap.size≤k):Upd i own own' w w':=
 ⟨⟨h.keeps.os.trans hb.os,h.keeps.tape.trans hb.tape,h.keeps.output.trans hb.output,Nat.le_trans hb.size h.keeps.size,fun k hk hx=>(h.keeps.block k (Nat.lt_of_lt_of_le hk hb.size) (by rintro(hh|e);exact hx hh;have:=hT k e.symm;omega)).trans (hb.block k hk)⟩,fun k hk=>h.same k (Nat.lt_of_lt_of_le hk hb.size) (fun e=>by have:=hT k e.symm;omega)⟩
section
variable {w W:World}{own:Nat→Nat}{i b:Nat}{c:Cfg}{s:St}{cl:Bool}{ch:Nat}{q cm o ev:Value}{qe ce oe:List Value}
theorem SAt.XaE (h:SAt w own i b c s cl ch q cm o ev qe ce oe){w1 w3:World}{v:Value}(hb:Below w.heap.size w w1)(hg:w1.grownBy w3 v.ownBlock)(hv:∀k,v.ownBlock=some k→own k≠tg i 0):w3.heap[b]?=some (.cells (Zm c s ch q cm o ev) 135 (0,0)):=by
 have hlt:=h.lt;have hz:=hb.size;rw[hg.block b (by omega) (fun e=>hv b e.symm h.ownb),hb.block b hlt];exact h.head
theorem Xe1 {own:Nat→Nat}{w w1 w3:World}{v:Value}{t k:Nat}{x:Obj}(hb:Below w.heap.size w w1)(hg:w1.grownBy w3 v.ownBlock)(hv:∀k,v.ownBlock=some k→own k=t)(ht:t≠0)(h0:own k=0)(hx:w.heap[k]?=some x):w3.heap[k]?=some x:=by
 have hlt:=(Array.getElem?_eq_some_iff.1 hx).1;have hz:=hb.size;rw[hg.block k (by omega) (fun e=>ht ((hv k e.symm).symm.trans h0)),hb.block k hlt];exact hx
def YA (own:Nat→Nat)(n n' t:Nat)(T:Option Nat):Nat→Nat:=fun k=>if some k=T then t else XZ own n n' t k
theorem SAt.Xf7 (h:SAt w own i b c s cl ch q cm o ev qe ce oe){v cm':Value}{m:Msg}{w2 w3:World}
  (hv:w.ownsRow 0 5 1 v m.length (Lib.byteCells m)) (hfree:∀k,v.ownBlock=some k→own k=0∧k≠0)
  (hb2:Below w.heap.size w w2) (hg:w2.grownBy w3 cm.ownBlock) (hrow:w3.ownsRow 0 28 1 cm' (s.came.length+1) (ce++[v]))
  (hob:cm'.ownBlock=cm.ownBlock∨∃k,cm'.ownBlock=some k∧w2.heap.size≤k) (hroom:s.came.length+1≤c.room):
  SAt (w3.setCell ⟨b,19,none⟩ cm') (YA own w.heap.size w3.heap.size (tg i 2) v.ownBlock) i b c {s with came:=s.came++[m]} cl ch q cm' o ev qe (ce++[v]) oe∧Zv v.ownBlock i own (YA own w.heap.size w3.heap.size (tg i 2) v.ownBlock) w (w3.setCell ⟨b,19,none⟩ cm'):=by
 have hz2:=hb2.size;have hz3:=hg.size;have hvlt:=World.ownsRow.lt hv
 have hob':∀k,cm'.ownBlock=some k→own k=tg i 2∨w.heap.size≤k:=by
  intro k hk;rcases hob with e|⟨k2,e,h2⟩
  ·rw[e]at hk;exact .inl (h.lcm.rown k hk)
  ·rw[e]at hk;simp at hk;omega
 have hK2:Xb (fun k=>some k=cm.ownBlock) w w3:=(Xb.of hb2).trans (Xb.grown hg);have hro:∀k,some k=cm.ownBlock→own k=tg i 2:=fun k hk=>h.lcm.rown k hk.symm
 have hold:∀k,k<w.heap.size→own k≠0→YA own w.heap.size w3.heap.size (tg i 2) v.ownBlock k=own k:=fun k hk h0=>by
  unfold YA;rw[if_neg (fun e=>h0 (hfree k e.symm).1)];exact XR hk
 have hold0:YA own w.heap.size w3.heap.size (tg i 2) v.ownBlock 0=0:=by
  unfold YA;rw[if_neg (fun e=>(hfree 0 e.symm).2 rfl),XR h.pos];exact h.XC
 have hbr:¬some b=cm.ownBlock:=fun e=>by have:=hro b e;rw[h.ownb]at this;exact Xz (by omega) (by omega) (.inr (by omega)) this
 have hlt:=h.lt;have hhead3:w3.heap[b]?=some (.cells (Zm c s ch q cm o ev) 135 (0,0)):=by rw[hK2.block b hlt hbr];exact h.head
 have hKb:Xb (· =b) w3 (w3.setCell ⟨b,19,none⟩ cm'):=(Xb.refl _ w3).setB _ _;have hK:Xb (fun k=>some k=cm.ownBlock∨k=b) w (w3.setCell ⟨b,19,none⟩ cm'):=(hK2.mono (fun _ h=>.inl h)).trans (hKb.mono (fun _ h=>.inr h))
 have hne:∀p,p<5→p≠0→p≠2→∀k,(some k=cm.ownBlock∨k=b)→own k≠tg i p:=by
  intro p hp h0 h3 k hk;rcases hk with hk|hk
  ·rw[hro k hk];exact Xz (by omega) hp (.inr (by omega))
  ·rw[hk,h.ownb];exact Xz (by omega) hp (.inr (by omega))
 have hlc:=(Array.getElem?_eq_some_iff.1 h.chan).1;have hcb:ch≠b:=fun e=>by have:=h.head;rw[← e,h.chan]at this;simp at this
 have hco:¬some ch=cm.ownBlock:=fun e=>by have:=hro ch e;rw[h.ownc]at this;exact Xz (by omega) (by omega) (.inr (by omega)) this
 -- lists of other parts
 have hlst:∀p,p<5→p≠0→p≠2→∀v' es l,Lst w own (tg i p) v' es l→Lst (w3.setCell ⟨b,19,none⟩ cm') (YA own w.heap.size w3.heap.size (tg i 2) v.ownBlock) (tg i p) v' es l:=by
  intro p hp h0 h2 v' es l hL;have hkk:=hL.keeps (own':=own) hK (hne p hp h0 h2) (fun _ _=>rfl);refine⟨hkk.row,fun k hk=> ?_,fun j x mm h1 h2=>⟨(hkk.each j x mm h1 h2).1,fun k hk=> ?_⟩,hL.apart⟩
  ·rw[hold k (World.ownsRow.lt hL.row k hk).2 (by rw[hL.rown k hk];exact Xq _ _)];exact hL.rown k hk
  ·have hx:=hL.each j x mm h1 h2;rw[hold k (World.ownsRow.lt hx.1 k hk).2 (by rw[hx.2 k hk];exact Xq _ _)];exact hx.2 k hk
 refine⟨⟨?_,(hold b hlt (by rw[h.ownb];exact Xq _ _)).trans h.ownb,?_,(hold ch hlc (by rw[h.ownc];exact Xq _ _)).trans h.ownc,hlst 1 (by omega) (by omega) (by omega) _ _ _ h.lq,?_,hlst 3 (by omega) (by omega) (by omega) _ _ _ h.lo,?_,?_,?_,hold0,?_,h.cok,⟨h.sok.state,h.sok.vs,h.sok.va,h.sok.vr,h.sok.vm,h.sok.q20,h.sok.q32,h.sok.timer,h.sok.tries,by show(s.came++[m]).length≤c.room;rw[List.length_append];exact hroom⟩⟩,⟨?_,?_⟩⟩
 ·exact Xm hhead3 cm'
 ·rw[hK.block ch hlc (fun hx=>by rcases hx with hx|hx;exact hco hx;exact hcb hx)];exact h.chan
 ·refine ⟨?_,?_,?_,h.lcm.snoc (fun k hk e=>by rw[(hfree k hk).1]at e;exact Xq _ _ e.symm)⟩
  ·have:(s.came++[m]).length=s.came.length+1:=by simp
   rw[this];refine Xc hrow hKb (fun k hk e=> ?_);rcases hob' k hk with h1|h1
   ·rw[e,h.ownb]at h1;exact Xz (by omega) (by omega) (.inr (by omega)) h1
   ·omega
  ·intro k hk;by_cases hT:some k=v.ownBlock
   ·simp[YA,hT]
   ·unfold YA;rw[if_neg hT];rcases hob with e|⟨k2,e,h2⟩
    ·rw[e]at hk;rw[XR (World.ownsRow.lt h.lcm.row k hk).2];exact h.lcm.rown k hk
    ·rw[e]at hk;simp at hk;have h4:=(World.ownsRow.lt hrow k2 e).2;exact YJ (by omega) (by omega)
  ·intro j x mm h1 h2;have hl:=h.lcm.len;by_cases hj:j<ce.length
   ·rw[List.getElem?_append_left hj]at h1;rw[List.getElem?_append_left (by omega)]at h2;have hx:=h.lcm.each j x mm h1 h2;refine⟨Xc hx.1 hK (fun k hk hX=> ?_),fun k hk=> ?_⟩
    ·rcases hX with hX|hX
     ·obtain ⟨c1,e1⟩:=Xd h.lcm.row hX.symm;obtain⟨c2,e2⟩:=Xd hx.1 hk;rw[e1]at e2;simp at e2
     ·have:=hx.2 k hk;rw[hX,h.ownb]at this;exact Xz (by omega) (by omega) (.inr (by omega)) this
    ·rw[hold k (World.ownsRow.lt hx.1 k hk).2 (by rw[hx.2 k hk];exact Xq _ _)];exact hx.2 k hk
   ·rw[List.getElem?_append_right (by omega)]at h1;rw[List.getElem?_append_right (by omega)]at h2;rw[hl]at h1;obtain⟨jj,hjj⟩:∃jj,j-s.came.length=jj:=⟨_,rfl⟩;rw[hjj]at h1 h2;rcases jj with _|jj
    ·simp at h1 h2;subst h1 h2;refine⟨Xc hv hK (fun k hk hX=> ?_),fun k hk=>by simp[YA,hk]⟩;have h0:=(hfree k hk).1;rcases hX with hX|hX
     ·rw[hro k hX]at h0;exact Xq _ _ h0
     ·rw[hX,h.ownb]at h0;exact Xq _ _ h0
    ·simp at h1
 ·exact Xc h.lev hK (fun k hk hX=>hne 4 (by omega) (by omega) (by omega) k hX (h.owne k hk))
 ·exact fun k hk=>(hold k (World.ownsRow.lt h.lev k hk).2 (by rw[h.owne k hk];exact Xq _ _)).trans (h.owne k hk)
 ·refine h.ctl.keeps hK h.pos (fun hx=> ?_);rcases hx with hx|hx
  ·have:=hro 0 hx;rw[h.XC]at this;exact Xq _ _ this.symm
  ·have:=h.ownb;rw[← hx,h.XC]at this;exact Xq _ _ this.symm
 ·intro k hk;rw[size_setCell]at hk;unfold YA;rw[if_neg (fun e=>by have:=(hvlt k e.symm).2;omega)];exact ZI (by omega) hk
 ·exact hK.mono (fun k hk=>by rcases hk with hk|hk;exact .inl ⟨2,by omega,hro k hk⟩;exact .inl ⟨0,by omega,by rw[hk];exact h.ownb⟩)
 ·intro k hk hT;unfold YA;rw[if_neg hT];exact XR hk
end
section
variable {w W:World}{own:Nat→Nat}{i b:Nat}{c:Cfg}{s:St}{cl:Bool}{ch:Nat}{q cm o ev:Value}{qe ce oe:List Value}
theorem XdQ (h:SAt w own i b c s cl ch q cm o ev qe ce oe)(fa fk:Int)(fp:Bool)(ns nr:Int)(info:Msg)(fq:Option Addr)(fc:Nat)(hv:w.ownsRow 0 5 1 (.slice fq info.length fc) info.length (Lib.byteCells info))(hfree:∀k,(Value.slice fq info.length fc).ownBlock=some k→own k=0∧k≠0)(hl:s.out.length≤2199023255552):
  Calls Tryz.prog 169 #[.pointer (some ⟨b,0,none⟩),frV (⟨fa,fk,fp,ns,nr,info⟩:Fr) fq fc] w fun e w'=>XbB (Value.slice fq info.length fc).ownBlock i b c (Ym c (⟨fa,fk,fp,ns,nr,info⟩:Fr) s) cl own w e w':=by
 have hlt:=h.lt;have hbw:Below w.heap.size w (w.alloc (.cells #[.int .i64 fa,.int .i64 fk,.bool fp,.int .i64 ns,.int .i64 nr,.slice fq info.length fc] 30)):=(Below.refl _ w).alloc (Nat.le_refl _) _;have h1:=h.later hbw;have k1:=QZ h1;have k2:=fun n p=>Q7 (h1.drewN n) p hl
 have hdef:Ym c (⟨fa,fk,fp,ns,nr,info⟩:Fr) s=if XO c s then answer c fp s else if ns=s.vr then answer c fp {s with vr:=follow c s.vr,came:=s.came++[info],Xu:=false} else if s.Xu=false then QD c ⟨0,4,fp,0,s.vr,[]⟩ {s with Xu:=true} else if fp then answer c true s else s:=rfl
 have hhu:XO c s=(s.busy||decide (c.room≤s.came.length)):=rfl;have c10:=h1.Xce;have c17:=h1.XdB;have fz:=h1.fz;obtain⟨y0,y1,y2,y3,y4,y5⟩:=Xt (Xg w (.cells #[.int .i64 fa,.int .i64 fk,.bool fp,.int .i64 ns,.int .i64 nr,.slice fq info.length fc] 30));unfold frV;simp only;generalize XO c s=x at k1 hdef hhu;have K2:=hide k2;have HD:=hide hdef;have H1:=hide h1;have H:=hide h;have HHU:=hide hhu;have HV:=hide hv;have HF:=hide hfree;clear h h1 k2 hdef hhu hv hfree;cases x with
 |true=>
  have HD2:=hide ((Xa HD).trans (if_pos rfl));clear HD;go_enter Tryz.func169,Tryz.ntmps169
  go_wp2_with fail
  refine k1.mono ?_;rintro e w0 ⟨rfl,n0,rfl⟩;clear k1;go_wp2_with fail
  refine(Xa K2 _ fp).mono ?_;rintro e w1 ⟨rfl,own2,h3,u3⟩;have HR:=hide (And.intro h3 (Upd.t (T:=(Value.slice fq info.length fc).ownBlock) (Upd.of (w:=w) (below_drewN ((Below.refl _ w).alloc (Nat.le_refl _) _) _) u3)));clear h3 u3 K2;go_wp2
  first|go_end0|refine bodyPost_ret (results_none rfl _ _ _) rfl ?_
  rw[Xa HD2];exact⟨rfl,_,(Xa HR).1,(Xa HR).2⟩
 |false=>
  have HD1:=hide ((Xa HD).trans (if_neg (by simp)));clear HD;by_cases hns:ns=s.vr
  ·have HD2:=hide ((Xa HD1).trans (if_pos hns));clear HD1;have tns:(ns==(s.vr:Int))=true:=by simp[hns]
   clear hns;go_enter Tryz.func169,Tryz.ntmps169
   go_wp2_with fail
   refine k1.mono ?_;rintro e w0 ⟨rfl,n0,rfl⟩;clear k1;go_wp2_with fail
   go_quiet (fail)
   go_wp2_with fail
   have hV:=(Xa H1).drewN (n0+nq);have hVb:Below w.heap.size w ((w.alloc (.cells #[.int .i64 fa,.int .i64 fk,.bool fp,.int .i64 ns,.int .i64 nr,.slice fq info.length fc] 30)).drewN (n0+nq)):=below_drewN hbw _;have hvV:=Xc (Xa HV) (Xb.of (X:=fun _=>False) hVb) (fun _ _=>id);have hbox:((w.alloc (.cells #[.int .i64 fa,.int .i64 fk,.bool fp,.int .i64 ns,.int .i64 nr,.slice fq info.length fc] 30)).drewN (n0+nq)).heap[w.heap.size]?=some (.cells #[.int .i64 fa,.int .i64 fk,.bool fp,.int .i64 ns,.int .i64 nr,.slice fq info.length fc] 30):=Xg w _;clear y0 y1 y2 y3 y4 y5 c10 c17 fz hbw H1 K2;generalize (w.alloc (.cells #[.int .i64 fa,.int .i64 fk,.bool fp,.int .i64 ns,.int .i64 nr,.slice fq info.length fc] 30)).drewN (n0+nq)=V at*;have k3:=XbX hV s.vr hV.sok.vr;refine k3.mono ?_;rintro e w3 ⟨rfl,n3,rfl⟩;have hV3:=hV.drewN n3;have c10:=hV3.Xce;have fz3:=hV3.fz;have hfl:=QW hV.cok s.vr;have h4:=hV3.wrote (s':={s with vr:=follow c s.vr}) ((Xb.refl _ _).setB 10 (.int .i64 (follow c s.vr:Nat))) (hV3.hd.vr _) rfl rfl rfl rfl ⟨hV3.sok.state,hV3.sok.vs,hV3.sok.va,hfl,hV3.sok.vm,hV3.sok.q20,hV3.sok.q32,hV3.sok.timer,hV3.sok.tries,hV3.sok.came⟩;have u4:Upd i own own w _:=Upd.of hVb (Upd.of (below_drewN (Below.refl _ V) n3) (hV3.upd ((Xb.refl _ _).setB 10 (.int .i64 (follow c s.vr:Nat)))));have hbox4:((V.drewN n3).setCell ⟨b,10,none⟩ (.int .i64 (follow c s.vr:Nat))).heap[w.heap.size]?=some (.cells #[.int .i64 fa,.int .i64 fk,.bool fp,.int .i64 ns,.int .i64 nr,.slice fq info.length fc] 30):=by rw[Below.heap_setCell _ _ _ _ (by show w.heap.size≠b;omega)];exact hbox
   have hv4:((V.drewN n3).setCell ⟨b,10,none⟩ (.int .i64 (follow c s.vr:Nat))).ownsRow 0 5 1 (.slice fq info.length fc) info.length (Lib.byteCells info):=Xc hvV (((Xb.refl _ V).drewN n3).setB 10 _) (fun k hk e=>by have:=((Xa HF) k hk).1;rw[e,hV.ownb]at this;exact Xq _ _ this);obtain⟨cp,ccap,hcm,hcc1,hcc2⟩:=h4.lcm.slice;subst hcm;have c19:=h4.Xi2;have fz4:=h4.fz;obtain⟨z0,z1,z2,z3,z4,z5⟩:=Xt hbox4;obtain⟨i1,hi1,hy0,hy1,hy2⟩:=info_parts QC;have hcl:s.came.length+1≤c.room:=by have:=Xa HHU;simp at this;omega
   have hr16:=hV.cok.room16;have HO:=hide (World.ownsRow.alloc (World.ownsRow.drew h4.lcm.row) (.cells #[.slice fq info.length fc] 28));have HM1:Hid (s.came.length+1≤maxLen):=hide (by unfold maxLen;omega);have HM2:Hid ((s.came.length+1)*24≤140737488355328):=hide (by omega);have hlt4:=h4.lt;have hltx4:w.heap.size<((V.drewN n3).setCell ⟨b,10,none⟩ (.int .i64 (follow c s.vr:Nat))).heap.size:=(Array.getElem?_eq_some_iff.1 hbox4).1;have H4:=hide h4;have HV4:=hide hv4;have U4:=hide u4;have hn0:=(Xa H).Xp w.heap.size (Nat.le_refl _);have HBX:=hide hbox4;clear k3 hV3 h4 hv4 u4 hbox hbox4 hvV H HV HHU hVb hV hcc1 hcc2 hr16;go_wp2_with fail
   generalize ((V.drewN n3).setCell ⟨b,10,none⟩ (.int .i64 (follow c s.vr:Nat)))=V4 at*;go_region_law ((refine Q5 _ (by rfl) _ _ 38 (by rfl) 0 28 i1 _ 1 24 Tryz.underlying38 hi1 hy0 hy1 hy2 rfl (by decide) _ _ _ (by rfl) (Xa HO) ⟨V4.heap.size,0,none⟩ 1 1 [.slice fq info.length fc] (by rfl) (by rfl) (cell_one_new _ _ _) (JK _ _ _) (Xa HM1) (Xa HM2) (Nat.zero_le _) ?_;intro cm5 w5 hrow5 hg5 hob5;obtain⟨p5,cap5,hs5⟩:=Yk hrow5;subst hs5;have hbl5:=((Below.refl V4.heap.size V4).drew).alloc (o:=.cells #[.slice fq info.length fc] 28) (Nat.le_refl _);have hh5:=(Xa H4).XaE hbl5 hg5 (fun k hk e=>Xz (i:=i) (j:=i) (p:=2) (q:=0) (by omega) (by omega) (.inr (by omega)) (((Xa H4).lcm.rown k hk).symm.trans e));have fz5:∀j,w5.frozen? ⟨b,j,none⟩=false:=(fun j=>Lib.frozen_of_heap hh5 j);have e19:w5.cell? ⟨b,19,none⟩=some (.slice cp s.came.length ccap):=(by rw[Lib.cell_of_heap hh5];rfl);have e17:w5.cell? ⟨b,17,none⟩=some (.bool s.Xu):=(by rw[Lib.cell_of_heap hh5];rfl)))
   all_goals
    have hS:=(Xa H4).Xf7 (Xa HV4) (Xa HF) hbl5 hg5 hrow5 (by rcases hob5 with e|e;exact .inl e;exact .inr ⟨_,e,Nat.le_refl _⟩) hcl;have hbox5:=Xe1 hbl5 hg5 (fun k hk=>(Xa H4).lcm.rown k hk) (Xq _ _) hn0 (Xa HBX);obtain⟨v0,v1,v2,v3,v4,v5⟩:=Xt hbox5;have hne:¬w.heap.size=b:=by omega
    have hne2:¬b=w.heap.size:=by omega
    have h6:=hS.1;have h7:=h6.wrote (s':={s with vr:=follow c s.vr,came:=s.came++[info],Xu:=false}) ((Xb.refl _ _).setB 17 (.bool false)) (h6.hd.Xu false) rfl rfl rfl rfl ⟨h6.sok.state,h6.sok.vs,h6.sok.va,h6.sok.vr,h6.sok.vm,h6.sok.q20,h6.sok.q32,h6.sok.timer,h6.sok.tries,h6.sok.came⟩;have u7:=((Xa U4).JY hS.2).trans (h6.upd ((Xb.refl _ _).setB 17 (.bool false)));have K7:=hide (Q7 h7 fp hl);have U7:=hide u7;clear hS h6 h7 u7 hbox5 hh5 hg5 hrow5 hob5 hbl5 H4 HV4 U4 HO HBX;go_wp2_with fail
    refine(Xa K7).mono ?_;rintro e w8 ⟨rfl,own8,h8,u8⟩;have HR:=hide (And.intro h8 ((Xa U7).trans u8));clear K7 U7 h8 u8;go_wp2
    first|go_end0|refine bodyPost_ret (results_none rfl _ _ _) rfl ?_
    rw[Xa HD2];exact⟨rfl,_,(Xa HR).1,(Xa HR).2⟩
  ·have HD3:=hide ((Xa HD1).trans (if_neg hns));have tns:(ns==(s.vr:Int))=false:=by simp[hns]
   clear HD1 hns;by_cases hr:s.Xu=false
   ·have HD2:=hide ((Xa HD3).trans (if_pos hr));rw[hr]at c17;clear HD3 hr;go_enter Tryz.func169,Tryz.ntmps169
    go_wp2_with fail
    refine k1.mono ?_;rintro e w0 ⟨rfl,n0,rfl⟩;clear k1;go_wp2_with fail
    go_quiet (fail)
    have hV:=(Xa H1).drewN (n0+nq);have hVb:Below w.heap.size w ((w.alloc (.cells #[.int .i64 fa,.int .i64 fk,.bool fp,.int .i64 ns,.int .i64 nr,.slice fq info.length fc] 30)).drewN (n0+nq)):=below_drewN hbw _;have hbox:((w.alloc (.cells #[.int .i64 fa,.int .i64 fk,.bool fp,.int .i64 ns,.int .i64 nr,.slice fq info.length fc] 30)).drewN (n0+nq)).heap[w.heap.size]?=some (.cells #[.int .i64 fa,.int .i64 fk,.bool fp,.int .i64 ns,.int .i64 nr,.slice fq info.length fc] 30):=Xg w _;have hh0:=hV.wrote (s':={s with Xu:=true}) ((Xb.refl _ _).setB 17 (.bool true)) (hV.hd.Xu true) rfl rfl rfl rfl ⟨hV.sok.state,hV.sok.vs,hV.sok.va,hV.sok.vr,hV.sok.vm,hV.sok.q20,hV.sok.q32,hV.sok.timer,hV.sok.tries,hV.sok.came⟩;have k5:=fun U hU=>QE (hh0.later (w':=U) hU) ⟨0,4,fp,0,s.vr,[]⟩ none 0 (Xae _) hl
    simp only[JA]at k5;have K5:=hide k5;have U5:=hide (Upd.of hVb (hV.upd ((Xb.refl _ _).setB 17 (.bool true))));clear hV hbox hh0 k5 hVb;have hne:¬w.heap.size=b:=by omega
    have hne2:¬b=w.heap.size:=by omega
    have d2:(((w.alloc (.cells #[.int .i64 fa,.int .i64 fk,.bool fp,.int .i64 ns,.int .i64 nr,.slice fq info.length fc] 30)).drewN (n0+nq)).setCell ⟨b,17,none⟩ (.bool true)).cell? ⟨w.heap.size,2,none⟩=some (.bool fp):=by
     rw[World.cell?_of_block (a:=⟨w.heap.size,2,none⟩) (Below.heap_setCell _ _ _ w.heap.size (by show w.heap.size≠b;omega))];exact y2
    have d10:(((w.alloc (.cells #[.int .i64 fa,.int .i64 fk,.bool fp,.int .i64 ns,.int .i64 nr,.slice fq info.length fc] 30)).drewN (n0+nq)).setCell ⟨b,17,none⟩ (.bool true)).cell? ⟨b,10,none⟩=some (.int .i64 s.vr):=by simp[go_sem,c10]
    have D2:=hide d2;have D10:=hide d10;clear d2 d10;go_wp2_with fail
    have d2:=Xa D2;have d10:=Xa D10;clear D2 D10 y0 y1 y2 y3 y4 y5 c10 c17 fz K2 H1;generalize (((w.alloc (.cells #[.int .i64 fa,.int .i64 fk,.bool fp,.int .i64 ns,.int .i64 nr,.slice fq info.length fc] 30)).drewN (n0+nq)).setCell ⟨b,17,none⟩ (.bool true))=V5 at*;go_region_with (go_at_call 141;refine(Xa K5 _ ?_).mono ?_;(first|exact Below.refl _ _|exact(Below.refl _ V5).drew);rintro e w8 ⟨rfl,own8,h8,u8⟩)
    all_goals
     have HR:=hide (And.intro h8 (Upd.t (T:=(Value.slice fq info.length fc).ownBlock) ((Xa U5).trans (Upd.of (w:=V5) (by first|exact Below.refl _ _|exact(Below.refl _ V5).drew) u8))));clear h8 u8 K5 U5;go_wp2
     first|go_end0|refine bodyPost_ret (results_none rfl _ _ _) rfl ?_
     rw[Xa HD2];exact⟨rfl,_,(Xa HR).1,(Xa HR).2⟩
   ·have HD4:=hide ((Xa HD3).trans (if_neg hr));rw[eq_true_of_ne_false hr]at c17;clear HD3 hr;cases fp with
    |true=>
     have HD2:=hide ((Xa HD4).trans (if_pos rfl));clear HD4;go_enter Tryz.func169,Tryz.ntmps169
     go_wp2_with fail
     refine k1.mono ?_;rintro e w0 ⟨rfl,n0,rfl⟩;clear k1;go_wp2_with fail
     go_quiet (fail)
     go_wp2_with fail
     refine(Xa K2 _ true).mono ?_;rintro e w1 ⟨rfl,own2,h3,u3⟩;have HR:=hide (And.intro h3 (Upd.t (T:=(Value.slice fq info.length fc).ownBlock) (Upd.of (w:=w) (below_drewN ((Below.refl _ w).alloc (Nat.le_refl _) _) _) u3)));clear h3 u3 K2;go_wp2
     first|go_end0|refine bodyPost_ret (results_none rfl _ _ _) rfl ?_
     rw[Xa HD2];exact⟨rfl,_,(Xa HR).1,(Xa HR).2⟩
    |false=>
     have HD2:=hide ((Xa HD4).trans (if_neg (by simp)));clear HD4;go_enter Tryz.func169,Tryz.ntmps169
     go_wp2_with fail
     refine k1.mono ?_;rintro e w0 ⟨rfl,n0,rfl⟩;clear k1;go_wp2_with fail
     go_quiet (fail)
     go_wp2
     first|go_end0|refine bodyPost_ret (results_none rfl _ _ _) rfl ?_
     rw[Xa HD2];exact Did.t ((Xa H).idleB (below_drewN ((Below.refl _ w).alloc (Nat.le_refl _) _) _))
end
section
variable {w W:World}{own:Nat→Nat}{i b:Nat}{c:Cfg}{s:St}{cl:Bool}{ch:Nat}{q cm o ev:Value}{qe ce oe:List Value}
theorem Xbe {own1:Nat→Nat}{w1:World}{k:Nat}{x:Obj}(u:Upd i own own1 W w1)(h0:own k=0)(hx:W.heap[k]?=some x):w1.heap[k]?=some x:=by
 rw[u.keeps.block k (Array.getElem?_eq_some_iff.1 hx).1 (by rintro⟨p,_,e⟩;rw[h0]at e;exact Xq _ _ e.symm)];exact hx
theorem XbT {own1:Nat→Nat}{w1:World}{e:TypeId}{v:Value}{n:Nat}{xs:List Value}(u:Upd i own own1 W w1)(hv:W.ownsRow 0 e 1 v n xs)(hf:∀k,v.ownBlock=some k→own k=0∧k≠0):w1.ownsRow 0 e 1 v n xs∧∀k,v.ownBlock=some k→own1 k=0∧k≠0:=
 ⟨Xc hv u.keeps (fun k hk=>by rintro⟨p,_,e⟩;rw[(hf k hk).1]at e;exact Xq _ _ e.symm),fun k hk=>⟨(u.same k (World.ownsRow.lt hv k hk).2).trans (hf k hk).1,(hf k hk).2⟩⟩
theorem X0 (nr:Nat):(Xe c nr s).out=s.out:=by unfold Xe;split <;> rfl
theorem QK (f:Fr):(Ym c f s).out.length≤s.out.length+1:=by
 unfold Ym;split
 ·simp[answer,QD,put]
 ·split
  ·simp[answer,QD,put]
  ·split
   ·simp[QD,put]
   ·split
    ·simp[answer,QD,put]
    ·omega
theorem Zp (f:Fr):(Xn c f s).out.length≤s.out.length+1:=by
 unfold Xn;dsimp only
 split
 ·simp
 ·split
  ·simp[answer,QD,put]
  ·split <;> simp
theorem Xgx (h:SAt w own i b c s cl ch q cm o ev qe ce oe)(fa:Int)(fp:Bool)(ns:Int)(nr:Nat)(info:Msg)(fq:Option Addr)(fc:Nat)(hnr:nr<c.m)(hvm:ahead c s s.vm≤s.queue.length)(hv:w.ownsRow 0 5 1 (.slice fq info.length fc) info.length (Lib.byteCells info))(hfree:∀k,(Value.slice fq info.length fc).ownBlock=some k→own k=0∧k≠0)(hl:s.out.length+18≤2199023255552)(hl2:s.events.length≤2199023255552):
  Calls Tryz.prog 163 #[.pointer (some ⟨b,0,none⟩),frV (⟨fa,1,fp,ns,(nr:Nat),info⟩:Fr) fq fc] w fun e w'=>XbB (Value.slice fq info.length fc).ownBlock i b c (YO c (⟨fa,1,fp,ns,(nr:Nat),info⟩:Fr) s) cl own w e w':=by
 have hlt:=h.lt;have hbw:Below w.heap.size w (w.alloc (.cells #[.int .i64 fa,.int .i64 (1:Int),.bool fp,.int .i64 ns,.int .i64 (nr:Nat),.slice fq info.length fc] 30)):=(Below.refl _ w).alloc (Nat.le_refl _) _;have h1:=h.later hbw;have hn0:=h.Xp w.heap.size (Nat.le_refl _);have k1:=XaF h1 nr hnr;have hdef:YO c (⟨fa,1,fp,ns,(nr:Nat),info⟩:Fr) s=if XI c s nr=false then Zo c (⟨fa,1,fp,ns,(nr:Nat),info⟩:Fr) s else pump c (Ym c (⟨fa,1,fp,ns,(nr:Nat),info⟩:Fr) (Xe c nr s)):=rfl
 have kf:=fun n=>Jq (h1.drewN n) (⟨fa,1,fp,ns,(nr:Nat),info⟩:Fr) fq fc (by omega) hl2
 have ka:=fun(hg:XI c s nr=true) n=>QO (h1.drewN n) nr hnr (Nat.le_trans (by simpa[XI]using hg) hvm)
 have hv1:=Xc hv (Xb.of (X:=fun _=>False) hbw) (fun _ _=>id);unfold frV at kf⊢;simp only at kf⊢;obtain⟨y0,y1,y2,y3,y4,y5⟩:=Xt (Xg w (.cells #[.int .i64 fa,.int .i64 (1:Int),.bool fp,.int .i64 ns,.int .i64 (nr:Nat),.slice fq info.length fc] 30));have KF:=hide kf;have KA:=hide ka;have HD:=hide hdef;have HV:=hide hv1;have HF:=hide hfree;have HB:=hide hbw;clear h h1 kf ka hdef hv hv1 hfree hbw;cases hg:XI c s nr with
 |false=>
  rw[hg]at k1;have HD2:=hide ((Xa HD).trans (if_pos hg));clear HD KA hg;go_enter Tryz.func163,Tryz.ntmps163
  go_wp2_with fail
  refine k1.mono ?_;rintro e w1 ⟨rfl,n1,rfl⟩;clear k1;go_wp2_with fail
  refine(Xa KF _).mono ?_;rintro e w2 ⟨rfl,own2,h3,u3⟩;have HR:=hide (And.intro h3 (Upd.t (T:=(Value.slice fq info.length fc).ownBlock) (Upd.of (w:=w) (below_drewN (Xa HB) _) u3)));clear h3 u3 KF;go_wp2
  first|go_end0|refine bodyPost_ret (results_none rfl _ _ _) rfl ?_
  rw[Xa HD2];exact⟨rfl,_,(Xa HR).1,(Xa HR).2⟩
 |true=>
  rw[hg]at k1;have HD2:=hide ((Xa HD).trans (if_neg (by rw[hg];simp)));have KA2:=hide (Xa KA hg);clear HD KA KF hg;go_enter Tryz.func163,Tryz.ntmps163
  go_wp2_with fail
  refine k1.mono ?_;rintro e w1 ⟨rfl,n1,rfl⟩;clear k1;go_wp2_with fail
  refine(Xa KA2 _).mono ?_;rintro e w2 ⟨rfl,own2,⟨ch2,q2,cm2,o2,ev2,qe2,ce2,oe2,h2⟩,u2⟩;have hbox2:=Xbe u2 hn0 (show((w.alloc (.cells #[.int .i64 fa,.int .i64 (1:Int),.bool fp,.int .i64 ns,.int .i64 (nr:Nat),.slice fq info.length fc] 30)).drewN n1).heap[w.heap.size]?=some (.cells #[.int .i64 fa,.int .i64 (1:Int),.bool fp,.int .i64 ns,.int .i64 (nr:Nat),.slice fq info.length fc] 30)from Xg w _);obtain⟨z0,z1,z2,z3,z4,z5⟩:=Xt hbox2;have hrf:=XbT u2 (Xa HV) (Xa HF);have ho2:(Xe c nr s).out.length=s.out.length:=by rw[X0]
  have U2:=hide (Upd.of (w:=w) (below_drewN (Xa HB) _) u2);have kh:=XdQ h2 fa 1 fp ns (nr:Nat) info fq fc hrf.1 hrf.2 (by omega);unfold frV at kh;simp only at kh;have K3:=hide kh;clear KA2 u2 h2 hrf kh hbox2 y0 y1 y2 y3 y4 y5;go_wp2_with fail
  refine(Xa K3).mono ?_;rintro e w3 ⟨rfl,own3,⟨ch3,q3,cm3,o3,ev3,qe3,ce3,oe3,h3⟩,u3⟩;have ho3:=QK (c:=c) (s:=Xe c nr s) (⟨fa,1,fp,ns,(nr:Nat),info⟩:Fr);have K4:=hide (XaZ h3 (by omega));have U3:=hide ((Xa U2).JY u3);clear K3 u3 h3 U2;go_wp2_with fail
  refine(Xa K4).mono ?_;rintro e w4 ⟨rfl,own4,h4,u4⟩;have HR:=hide (And.intro h4 ((Xa U3).trans u4));clear h4 u4 K4 U3;go_wp2
  first|go_end0|refine bodyPost_ret (results_none rfl _ _ _) rfl ?_
  rw[Xa HD2];exact⟨rfl,_,(Xa HR).1,(Xa HR).2⟩
theorem Xgy (h:SAt w own i b c s cl ch q cm o ev qe ce oe)(fa:Int)(fp:Bool)(ns:Int)(nr:Nat)(info:Msg)(fq:Option Addr)(fc:Nat)(hnr:nr<c.m)(hvm:ahead c s s.vm≤s.queue.length)(hv:w.ownsRow 0 5 1 (.slice fq info.length fc) info.length (Lib.byteCells info))(hfree:∀k,(Value.slice fq info.length fc).ownBlock=some k→own k=0∧k≠0)(hl:s.out.length+18≤2199023255552)(hl2:s.events.length≤2199023255552):
  Calls Tryz.prog 163 #[.pointer (some ⟨b,0,none⟩),frV (⟨fa,2,fp,ns,(nr:Nat),info⟩:Fr) fq fc] w fun e w'=>XbB (Value.slice fq info.length fc).ownBlock i b c (YO c (⟨fa,2,fp,ns,(nr:Nat),info⟩:Fr) s) cl own w e w':=by
 have hlt:=h.lt;have hbw:Below w.heap.size w (w.alloc (.cells #[.int .i64 fa,.int .i64 (2:Int),.bool fp,.int .i64 ns,.int .i64 (nr:Nat),.slice fq info.length fc] 30)):=(Below.refl _ w).alloc (Nat.le_refl _) _;have h1:=h.later hbw;have hn0:=h.Xp w.heap.size (Nat.le_refl _);have k1:=XaF h1 nr hnr;have hdef:YO c (⟨fa,2,fp,ns,(nr:Nat),info⟩:Fr) s=if XI c s nr=false then Zo c (⟨fa,2,fp,ns,(nr:Nat),info⟩:Fr) s else pump c (Xn c (⟨fa,2,fp,ns,(nr:Nat),info⟩:Fr) (Xe c nr s)):=rfl
 have kf:=fun n=>Jq (h1.drewN n) (⟨fa,2,fp,ns,(nr:Nat),info⟩:Fr) fq fc (by omega) hl2
 have ka:=fun(hg:XI c s nr=true) n=>QO (h1.drewN n) nr hnr (Nat.le_trans (by simpa[XI]using hg) hvm)
 have hv1:=Xc hv (Xb.of (X:=fun _=>False) hbw) (fun _ _=>id);unfold frV at kf⊢;simp only at kf⊢;obtain⟨y0,y1,y2,y3,y4,y5⟩:=Xt (Xg w (.cells #[.int .i64 fa,.int .i64 (2:Int),.bool fp,.int .i64 ns,.int .i64 (nr:Nat),.slice fq info.length fc] 30));have KF:=hide kf;have KA:=hide ka;have HD:=hide hdef;have HV:=hide hv1;have HF:=hide hfree;have HB:=hide hbw;clear h h1 kf ka hdef hv hv1 hfree hbw;cases hg:XI c s nr with
 |false=>
  rw[hg]at k1;have HD2:=hide ((Xa HD).trans (if_pos hg));clear HD KA hg;go_enter Tryz.func163,Tryz.ntmps163
  go_wp2_with fail
  refine k1.mono ?_;rintro e w1 ⟨rfl,n1,rfl⟩;clear k1;go_wp2_with fail
  refine(Xa KF _).mono ?_;rintro e w2 ⟨rfl,own2,h3,u3⟩;have HR:=hide (And.intro h3 (Upd.t (T:=(Value.slice fq info.length fc).ownBlock) (Upd.of (w:=w) (below_drewN (Xa HB) _) u3)));clear h3 u3 KF;go_wp2
  first|go_end0|refine bodyPost_ret (results_none rfl _ _ _) rfl ?_
  rw[Xa HD2];exact⟨rfl,_,(Xa HR).1,(Xa HR).2⟩
 |true=>
  rw[hg]at k1;have HD2:=hide ((Xa HD).trans (if_neg (by rw[hg];simp)));have KA2:=hide (Xa KA hg);clear HD KA KF hg;go_enter Tryz.func163,Tryz.ntmps163
  go_wp2_with fail
  refine k1.mono ?_;rintro e w1 ⟨rfl,n1,rfl⟩;clear k1;go_wp2_with fail
  refine(Xa KA2 _).mono ?_;rintro e w2 ⟨rfl,own2,⟨ch2,q2,cm2,o2,ev2,qe2,ce2,oe2,h2⟩,u2⟩;have hbox2:=Xbe u2 hn0 (show((w.alloc (.cells #[.int .i64 fa,.int .i64 (2:Int),.bool fp,.int .i64 ns,.int .i64 (nr:Nat),.slice fq info.length fc] 30)).drewN n1).heap[w.heap.size]?=some (.cells #[.int .i64 fa,.int .i64 (2:Int),.bool fp,.int .i64 ns,.int .i64 (nr:Nat),.slice fq info.length fc] 30)from Xg w _);obtain⟨z0,z1,z2,z3,z4,z5⟩:=Xt hbox2;have hrf:=XbT u2 (Xa HV) (Xa HF);have ho2:(Xe c nr s).out.length=s.out.length:=by rw[X0]
  have U2:=hide (Upd.of (w:=w) (below_drewN (Xa HB) _) u2);have kh:=Xer h2 fa ns fp nr info fq fc hnr (by omega);unfold frV at kh;simp only at kh;have K3:=hide kh;clear KA2 u2 h2 hrf kh hbox2 y0 y1 y2 y3 y4 y5;go_wp2_with fail
  refine(Xa K3).mono ?_;rintro e w3 ⟨rfl,own3,⟨ch3,q3,cm3,o3,ev3,qe3,ce3,oe3,h3⟩,u3⟩;have ho3:=Zp (c:=c) (s:=Xe c nr s) (⟨fa,2,fp,ns,(nr:Nat),info⟩:Fr);have K4:=hide (XaZ h3 (by omega));have U3:=hide (Upd.t (T:=(Value.slice fq info.length fc).ownBlock) ((Xa U2).trans u3));clear K3 u3 h3 U2;go_wp2_with fail
  refine(Xa K4).mono ?_;rintro e w4 ⟨rfl,own4,h4,u4⟩;have HR:=hide (And.intro h4 ((Xa U3).trans u4));clear h4 u4 K4 U3;go_wp2
  first|go_end0|refine bodyPost_ret (results_none rfl _ _ _) rfl ?_
  rw[Xa HD2];exact⟨rfl,_,(Xa HR).1,(Xa HR).2⟩
theorem Xgz (h:SAt w own i b c s cl ch q cm o ev qe ce oe)(fa:Int)(fp:Bool)(ns:Int)(nr:Nat)(info:Msg)(fq:Option Addr)(fc:Nat)(hnr:nr<c.m)(hvm:ahead c s s.vm≤s.queue.length)(hv:w.ownsRow 0 5 1 (.slice fq info.length fc) info.length (Lib.byteCells info))(hfree:∀k,(Value.slice fq info.length fc).ownBlock=some k→own k=0∧k≠0)(hl:s.out.length+18≤2199023255552)(hl2:s.events.length≤2199023255552):
  Calls Tryz.prog 163 #[.pointer (some ⟨b,0,none⟩),frV (⟨fa,3,fp,ns,(nr:Nat),info⟩:Fr) fq fc] w fun e w'=>XbB (Value.slice fq info.length fc).ownBlock i b c (YO c (⟨fa,3,fp,ns,(nr:Nat),info⟩:Fr) s) cl own w e w':=by
 have hlt:=h.lt;have hbw:Below w.heap.size w (w.alloc (.cells #[.int .i64 fa,.int .i64 (3:Int),.bool fp,.int .i64 ns,.int .i64 (nr:Nat),.slice fq info.length fc] 30)):=(Below.refl _ w).alloc (Nat.le_refl _) _;have h1:=h.later hbw;have hn0:=h.Xp w.heap.size (Nat.le_refl _);have k1:=XaF h1 nr hnr;have hdef:YO c (⟨fa,3,fp,ns,(nr:Nat),info⟩:Fr) s=if XI c s nr=false then Zo c (⟨fa,3,fp,ns,(nr:Nat),info⟩:Fr) s else pump c (Xn c (⟨fa,3,fp,ns,(nr:Nat),info⟩:Fr) (Xe c nr s)):=rfl
 have kf:=fun n=>Jq (h1.drewN n) (⟨fa,3,fp,ns,(nr:Nat),info⟩:Fr) fq fc (by omega) hl2
 have ka:=fun(hg:XI c s nr=true) n=>QO (h1.drewN n) nr hnr (Nat.le_trans (by simpa[XI]using hg) hvm)
 have hv1:=Xc hv (Xb.of (X:=fun _=>False) hbw) (fun _ _=>id);unfold frV at kf⊢;simp only at kf⊢;obtain⟨y0,y1,y2,y3,y4,y5⟩:=Xt (Xg w (.cells #[.int .i64 fa,.int .i64 (3:Int),.bool fp,.int .i64 ns,.int .i64 (nr:Nat),.slice fq info.length fc] 30));have KF:=hide kf;have KA:=hide ka;have HD:=hide hdef;have HV:=hide hv1;have HF:=hide hfree;have HB:=hide hbw;clear h h1 kf ka hdef hv hv1 hfree hbw;cases hg:XI c s nr with
 |false=>
  rw[hg]at k1;have HD2:=hide ((Xa HD).trans (if_pos hg));clear HD KA hg;go_enter Tryz.func163,Tryz.ntmps163
  go_wp2_with fail
  refine k1.mono ?_;rintro e w1 ⟨rfl,n1,rfl⟩;clear k1;go_wp2_with fail
  refine(Xa KF _).mono ?_;rintro e w2 ⟨rfl,own2,h3,u3⟩;have HR:=hide (And.intro h3 (Upd.t (T:=(Value.slice fq info.length fc).ownBlock) (Upd.of (w:=w) (below_drewN (Xa HB) _) u3)));clear h3 u3 KF;go_wp2
  first|go_end0|refine bodyPost_ret (results_none rfl _ _ _) rfl ?_
  rw[Xa HD2];exact⟨rfl,_,(Xa HR).1,(Xa HR).2⟩
 |true=>
  rw[hg]at k1;have HD2:=hide ((Xa HD).trans (if_neg (by rw[hg];simp)));have KA2:=hide (Xa KA hg);clear HD KA KF hg;go_enter Tryz.func163,Tryz.ntmps163
  go_wp2_with fail
  refine k1.mono ?_;rintro e w1 ⟨rfl,n1,rfl⟩;clear k1;go_wp2_with fail
  refine(Xa KA2 _).mono ?_;rintro e w2 ⟨rfl,own2,⟨ch2,q2,cm2,o2,ev2,qe2,ce2,oe2,h2⟩,u2⟩;have hbox2:=Xbe u2 hn0 (show((w.alloc (.cells #[.int .i64 fa,.int .i64 (3:Int),.bool fp,.int .i64 ns,.int .i64 (nr:Nat),.slice fq info.length fc] 30)).drewN n1).heap[w.heap.size]?=some (.cells #[.int .i64 fa,.int .i64 (3:Int),.bool fp,.int .i64 ns,.int .i64 (nr:Nat),.slice fq info.length fc] 30)from Xg w _);obtain⟨z0,z1,z2,z3,z4,z5⟩:=Xt hbox2;have hrf:=XbT u2 (Xa HV) (Xa HF);have ho2:(Xe c nr s).out.length=s.out.length:=by rw[X0]
  have U2:=hide (Upd.of (w:=w) (below_drewN (Xa HB) _) u2);have kh:=Xes h2 fa ns fp nr info fq fc hnr (by omega);unfold frV at kh;simp only at kh;have K3:=hide kh;clear KA2 u2 h2 hrf kh hbox2 y0 y1 y2 y3 y4 y5;go_wp2_with fail
  refine(Xa K3).mono ?_;rintro e w3 ⟨rfl,own3,⟨ch3,q3,cm3,o3,ev3,qe3,ce3,oe3,h3⟩,u3⟩;have ho3:=Zp (c:=c) (s:=Xe c nr s) (⟨fa,3,fp,ns,(nr:Nat),info⟩:Fr);have K4:=hide (XaZ h3 (by omega));have U3:=hide (Upd.t (T:=(Value.slice fq info.length fc).ownBlock) ((Xa U2).trans u3));clear K3 u3 h3 U2;go_wp2_with fail
  refine(Xa K4).mono ?_;rintro e w4 ⟨rfl,own4,h4,u4⟩;have HR:=hide (And.intro h4 ((Xa U3).trans u4));clear h4 u4 K4 U3;go_wp2
  first|go_end0|refine bodyPost_ret (results_none rfl _ _ _) rfl ?_
  rw[Xa HD2];exact⟨rfl,_,(Xa HR).1,(Xa HR).2⟩
theorem XgA (h:SAt w own i b c s cl ch q cm o ev qe ce oe)(fa:Int)(fp:Bool)(ns:Int)(nr:Nat)(info:Msg)(fq:Option Addr)(fc:Nat)(hnr:nr<c.m)(hvm:ahead c s s.vm≤s.queue.length)(hv:w.ownsRow 0 5 1 (.slice fq info.length fc) info.length (Lib.byteCells info))(hfree:∀k,(Value.slice fq info.length fc).ownBlock=some k→own k=0∧k≠0)(hl:s.out.length+18≤2199023255552)(hl2:s.events.length≤2199023255552):
  Calls Tryz.prog 163 #[.pointer (some ⟨b,0,none⟩),frV (⟨fa,4,fp,ns,(nr:Nat),info⟩:Fr) fq fc] w fun e w'=>XbB (Value.slice fq info.length fc).ownBlock i b c (YO c (⟨fa,4,fp,ns,(nr:Nat),info⟩:Fr) s) cl own w e w':=by
 have hlt:=h.lt;have hbw:Below w.heap.size w (w.alloc (.cells #[.int .i64 fa,.int .i64 (4:Int),.bool fp,.int .i64 ns,.int .i64 (nr:Nat),.slice fq info.length fc] 30)):=(Below.refl _ w).alloc (Nat.le_refl _) _;have h1:=h.later hbw;have hn0:=h.Xp w.heap.size (Nat.le_refl _);have k1:=XaF h1 nr hnr;have hdef:YO c (⟨fa,4,fp,ns,(nr:Nat),info⟩:Fr) s=if XI c s nr=false then Zo c (⟨fa,4,fp,ns,(nr:Nat),info⟩:Fr) s else pump c (Xn c (⟨fa,4,fp,ns,(nr:Nat),info⟩:Fr) (Xe c nr s)):=rfl
 have kf:=fun n=>Jq (h1.drewN n) (⟨fa,4,fp,ns,(nr:Nat),info⟩:Fr) fq fc (by omega) hl2
 have ka:=fun(hg:XI c s nr=true) n=>QO (h1.drewN n) nr hnr (Nat.le_trans (by simpa[XI]using hg) hvm)
 have hv1:=Xc hv (Xb.of (X:=fun _=>False) hbw) (fun _ _=>id);unfold frV at kf⊢;simp only at kf⊢;obtain⟨y0,y1,y2,y3,y4,y5⟩:=Xt (Xg w (.cells #[.int .i64 fa,.int .i64 (4:Int),.bool fp,.int .i64 ns,.int .i64 (nr:Nat),.slice fq info.length fc] 30));have KF:=hide kf;have KA:=hide ka;have HD:=hide hdef;have HV:=hide hv1;have HF:=hide hfree;have HB:=hide hbw;clear h h1 kf ka hdef hv hv1 hfree hbw;cases hg:XI c s nr with
 |false=>
  rw[hg]at k1;have HD2:=hide ((Xa HD).trans (if_pos hg));clear HD KA hg;go_enter Tryz.func163,Tryz.ntmps163
  go_wp2_with fail
  refine k1.mono ?_;rintro e w1 ⟨rfl,n1,rfl⟩;clear k1;go_wp2_with fail
  refine(Xa KF _).mono ?_;rintro e w2 ⟨rfl,own2,h3,u3⟩;have HR:=hide (And.intro h3 (Upd.t (T:=(Value.slice fq info.length fc).ownBlock) (Upd.of (w:=w) (below_drewN (Xa HB) _) u3)));clear h3 u3 KF;go_wp2
  first|go_end0|refine bodyPost_ret (results_none rfl _ _ _) rfl ?_
  rw[Xa HD2];exact⟨rfl,_,(Xa HR).1,(Xa HR).2⟩
 |true=>
  rw[hg]at k1;have HD2:=hide ((Xa HD).trans (if_neg (by rw[hg];simp)));have KA2:=hide (Xa KA hg);clear HD KA KF hg;go_enter Tryz.func163,Tryz.ntmps163
  go_wp2_with fail
  refine k1.mono ?_;rintro e w1 ⟨rfl,n1,rfl⟩;clear k1;go_wp2_with fail
  refine(Xa KA2 _).mono ?_;rintro e w2 ⟨rfl,own2,⟨ch2,q2,cm2,o2,ev2,qe2,ce2,oe2,h2⟩,u2⟩;have hbox2:=Xbe u2 hn0 (show((w.alloc (.cells #[.int .i64 fa,.int .i64 (4:Int),.bool fp,.int .i64 ns,.int .i64 (nr:Nat),.slice fq info.length fc] 30)).drewN n1).heap[w.heap.size]?=some (.cells #[.int .i64 fa,.int .i64 (4:Int),.bool fp,.int .i64 ns,.int .i64 (nr:Nat),.slice fq info.length fc] 30)from Xg w _);obtain⟨z0,z1,z2,z3,z4,z5⟩:=Xt hbox2;have hrf:=XbT u2 (Xa HV) (Xa HF);have ho2:(Xe c nr s).out.length=s.out.length:=by rw[X0]
  have U2:=hide (Upd.of (w:=w) (below_drewN (Xa HB) _) u2);have kh:=Xet h2 fa ns fp nr info fq fc hnr (by omega);unfold frV at kh;simp only at kh;have K3:=hide kh;clear KA2 u2 h2 hrf kh hbox2 y0 y1 y2 y3 y4 y5;go_wp2_with fail
  refine(Xa K3).mono ?_;rintro e w3 ⟨rfl,own3,⟨ch3,q3,cm3,o3,ev3,qe3,ce3,oe3,h3⟩,u3⟩;have ho3:=Zp (c:=c) (s:=Xe c nr s) (⟨fa,4,fp,ns,(nr:Nat),info⟩:Fr);have K4:=hide (XaZ h3 (by omega));have U3:=hide (Upd.t (T:=(Value.slice fq info.length fc).ownBlock) ((Xa U2).trans u3));clear K3 u3 h3 U2;go_wp2_with fail
  refine(Xa K4).mono ?_;rintro e w4 ⟨rfl,own4,h4,u4⟩;have HR:=hide (And.intro h4 ((Xa U3).trans u4));clear h4 u4 K4 U3;go_wp2
  first|go_end0|refine bodyPost_ret (results_none rfl _ _ _) rfl ?_
  rw[Xa HD2];exact⟨rfl,_,(Xa HR).1,(Xa HR).2⟩
end
section
variable {w:World}{own:Nat→Nat}{i b:Nat}{c:Cfg}{s:St}{cl:Bool}{q cm o ev:Value}{ce oe:List Value}
def XN (w:World)(b:Nat)(c:Cfg)(s:St)(cl:Bool)(q cm o ev:Value):Prop:=w.heap[b]?=some (.cells (Zn c s cl q cm o ev) 137 (0,0))
theorem XN.state (h:XN w b c s cl q cm o ev)(k:Nat):XN (w.setCell ⟨b,6,none⟩ (.int .i64 k)) b c {s with state:=k} cl q cm o ev:=Xm h _
theorem XN.vs (h:XN w b c s cl q cm o ev)(k:Nat):XN (w.setCell ⟨b,7,none⟩ (.int .i64 k)) b c {s with vs:=k} cl q cm o ev:=Xm h _
theorem XN.va (h:XN w b c s cl q cm o ev)(k:Nat):XN (w.setCell ⟨b,8,none⟩ (.int .i64 k)) b c {s with va:=k} cl q cm o ev:=Xm h _
theorem XN.vr (h:XN w b c s cl q cm o ev)(k:Nat):XN (w.setCell ⟨b,9,none⟩ (.int .i64 k)) b c {s with vr:=k} cl q cm o ev:=Xm h _
theorem XN.vm (h:XN w b c s cl q cm o ev)(k:Nat):XN (w.setCell ⟨b,10,none⟩ (.int .i64 k)) b c {s with vm:=k} cl q cm o ev:=Xm h _
theorem XN.timer (h:XN w b c s cl q cm o ev)(k:Nat):XN (w.setCell ⟨b,12,none⟩ (.int .i64 k)) b c {s with timer:=k} cl q cm o ev:=Xm h _
theorem XN.tries (h:XN w b c s cl q cm o ev)(k:Nat):XN (w.setCell ⟨b,13,none⟩ (.int .i64 k)) b c {s with tries:=k} cl q cm o ev:=Xm h _
theorem XN.Xh (h:XN w b c s cl q cm o ev)(k:Bool):XN (w.setCell ⟨b,14,none⟩ (.bool k)) b c {s with Xh:=k} cl q cm o ev:=Xm h _
theorem XN.peer (h:XN w b c s cl q cm o ev)(k:Bool):XN (w.setCell ⟨b,15,none⟩ (.bool k)) b c {s with peer:=k} cl q cm o ev:=Xm h _
theorem XN.busy (h:XN w b c s cl q cm o ev)(k:Bool):XN (w.setCell ⟨b,16,none⟩ (.bool k)) b c {s with busy:=k} cl q cm o ev:=Xm h _
theorem XN.Xu (h:XN w b c s cl q cm o ev)(k:Bool):XN (w.setCell ⟨b,17,none⟩ (.bool k)) b c {s with Xu:=k} cl q cm o ev:=Xm h _
theorem XN.lq (h:XN w b c s cl q cm o ev)(k:Value):XN (w.setCell ⟨b,11,none⟩ k) b c s cl k cm o ev:=Xm h _
theorem XN.lcm (h:XN w b c s cl q cm o ev)(k:Value):XN (w.setCell ⟨b,18,none⟩ k) b c s cl q k o ev:=Xm h _
theorem XN.lo (h:XN w b c s cl q cm o ev)(k:Value):XN (w.setCell ⟨b,19,none⟩ k) b c s cl q cm k ev:=Xm h _
theorem XN.lev (h:XN w b c s cl q cm o ev)(k:Value):XN (w.setCell ⟨b,20,none⟩ k) b c s cl q cm o k:=Xm h _
theorem XN.shut (h:XN w b c s cl q cm o ev)(k:Bool):XN (w.setCell ⟨b,21,none⟩ (.bool k)) b c s k q cm o ev:=Xm h _
theorem XN.as (h:XN w b c s cl q cm o ev)(s':St)(e:s'={s with queue:=s'.queue,came:=s'.came,out:=s'.out,events:=s'.events}):XN w b c s' cl q cm o ev:=by
 rw[e];exact h
theorem TAt.hd (h:TAt w own i b c s cl q cm o ev ce oe):XN w b c s cl q cm o ev:=h.head
theorem TAt.YL (h:TAt w own i b c s cl q cm o ev ce oe){s':St}{cl':Bool}{w':World}{q' cm' o' ev':Value}{ce' oe':List Value}(hk:Xb (· =b) w w')(hh:XN w' b c s' cl' q' cm' o' ev')
  (e1:YZ w own (tg i 1) q' s'.queue) (e2:XB cm cm' ce ce' s.came s'.came) (e3:XB o o' oe oe' s.out s'.out) (e4:(ev'=ev∧s'.events=s.events)∨(ev'=.slice none 0 0∧s'.events=[])) (hok:s'.fit c):TAt w' own i b c s' cl' q' cm' o' ev' ce' oe':=by
 have hne:∀p,p≠0→p<5→∀k,k=b→own k≠tg i p:=fun p hp hp5 k hk=>by rw[hk,h.ownb];exact Xz (by omega) hp5 (.inr (fun e=>hp e.symm))
 refine⟨hh,h.ownb,?_,?_,?_,?_,?_,h.XC,fun k hs=>h.Xp k (Nat.le_trans hk.size hs),h.cok,hok⟩
 ·exact e1.keeps hk (hne 1 (by omega) (by omega)) (fun _ _=>rfl)
 ·exact e2.lst (h.lcm.keeps hk (hne 2 (by omega) (by omega)) (fun _ _=>rfl))
 ·exact e3.lst (h.lo.keeps hk (hne 3 (by omega) (by omega)) (fun _ _=>rfl))
 ·rcases e4 with⟨rfl,e⟩|⟨rfl,e⟩
  ·rw[e];exact Xc h.lev hk (fun k hb hX=>hne 4 (by omega) (by omega) k hX (h.owne k hb))
  ·rw[e];exact World.ownsRow_nil _ _ _ _
 ·rcases e4 with⟨rfl,e⟩|⟨rfl,e⟩
  ·exact h.owne
  ·intro k hk;simp[Value.ownBlock]at hk
theorem XgT (h:TAt w own i b c s cl q cm o ev ce oe):
  Calls Tryz.prog 127 #[.pointer (some ⟨b,0,none⟩)] w fun e w'=>e=.returned (.tuple #[])∧TAt w' own i b c (over s) cl (.slice none 0 0) cm o ev ce oe∧Upd i own own w w':=by
 have c7:=h.c7;have c8:=h.c8;have c9:=h.c9;have c10:=h.c10;have c11:=h.c11;have c12:=h.c12;have c13:=h.c13;have c14:=h.c14;have c15:=h.c15;have c17:=h.c17;have fz:=h.fz;have hlt:=h.lt;have H:=hide h;clear h;go_enter Tryz.func127,Tryz.ntmps127
 go_wp2
 go_end0
 have h:=Xa H;have hK:Xb (· =b) w _:=((((((((((Xb.refl _ w).setB 7 (.int .i64 0)).setB 8 (.int .i64 0)).setB 9 (.int .i64 0)).setB 10 (.int .i64 0)).setB 13 (.int .i64 0)).setB 11 (.slice none 0 0)).setB 12 (.int .i64 0)).setB 14 (.bool false)).setB 17 (.bool false)).setB 15 (.bool false);exact⟨rfl,h.YL hK (((((((((((h.hd.vs 0).va 0).vr 0).vm 0).tries 0).lq _).timer 0).Xh false).Xu false).peer false).as (over s) rfl) (YZ.nil _ _ _) XB.same XB.same (.inl ⟨rfl,rfl⟩) (Xfg h.cok h.sok),h.upd hK⟩
end
end Go.Proofs.YtkalonhalhdlaaaGreatDoor
