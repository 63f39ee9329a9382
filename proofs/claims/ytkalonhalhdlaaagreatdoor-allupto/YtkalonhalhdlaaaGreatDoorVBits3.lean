import Derived.Test.YtkalonhalhdlaaaGreatDoorG18
set_option maxHeartbeats 8000000
set_option maxRecDepth 1000000
namespace Go.Proofs.YtkalonhalhdlaaaGreatDoor
open Go.RowKit
theorem Xbv {wb lc:Nat}{w:World}{o:OpV}{lp:Option Addr}{ls:List ByteArray}{Q:World→Prop}(hQ:∀w',Below w.heap.size w w'→Q w')(hk:o.kind=2)(hlv:o.lv=.slice lp ls.length lc)(hT:Qo w lp ls)(hn:ls.length≤1048576)(hsz:∀s∈ls,s.size≤1048576):
  Calls Tryz.prog 14 #[.pointer (some ⟨wb,0,none⟩),opV o] w fun e w'=>e=.returned (.bool true)∧Q w':=by
 have HE:=hide hQ;obtain⟨kind,a,b,d,s,lv,⟨fa,fk,fp,fns,fnr,info⟩,fq,fc,x0,x1,x2,x3,x4,x5⟩:=o;simp only at hlv hk;subst hlv hk;unfold opV;simp only;clear hQ;obtain⟨i1,hi1,hq0,hq1,hq2⟩:=info_parts Xcn;have hA0:=Xg w (.cells #[.int .i64 2,.int .i64 a,.int .i64 b,.int .i64 d,.string s,.slice lp ls.length lc,.int .i64 fa,.int .i64 fk,.bool fp,.int .i64 fns,.int .i64 fnr,.slice fq info.length fc,.int .i64 x0,.int .i64 x1,.int .i64 x2,.int .i64 x3,.int .i64 x4,.int .i64 x5] 34);have hbA:=(Below.refl w.heap.size w).alloc (Nat.le_refl _) (.cells #[.int .i64 2,.int .i64 a,.int .i64 b,.int .i64 d,.string s,.slice lp ls.length lc,.int .i64 fa,.int .i64 fk,.bool fp,.int .i64 fns,.int .i64 fnr,.slice fq info.length fc,.int .i64 x0,.int .i64 x1,.int .i64 x2,.int .i64 x3,.int .i64 x4,.int .i64 x5] 34);have hzA:=Xk w (.cells #[.int .i64 2,.int .i64 a,.int .i64 b,.int .i64 d,.string s,.slice lp ls.length lc,.int .i64 fa,.int .i64 fk,.bool fp,.int .i64 fns,.int .i64 fnr,.slice fq info.length fc,.int .i64 x0,.int .i64 x1,.int .i64 x2,.int .i64 x3,.int .i64 x4,.int .i64 x5] 34);go_enter Tryz.func14,Tryz.ntmps14
 go_upto_region 1 with fail
 generalize hWA:w.alloc (.cells #[.int .i64 2,.int .i64 a,.int .i64 b,.int .i64 d,.string s,.slice lp ls.length lc,.int .i64 fa,.int .i64 fk,.bool fp,.int .i64 fns,.int .i64 fnr,.slice fq info.length fc,.int .i64 x0,.int .i64 x1,.int .i64 x2,.int .i64 x3,.int .i64 x4,.int .i64 x5] 34)=WA at*;clear hWA;have hTA:Qo WA lp ls:=hT.below hbA (Nat.le_refl _);generalize hnB:w.heap.size=nB at*;have hlA:nB<WA.heap.size:=by omega
 have HEW:Hid (∀ w',Below WA.heap.size WA w'→Q w'):=fun w' hb=>Xa HE w' (hbA.trans (hb.mono (by omega)))
 have HT:=hide hTA;have HA0:=hide hA0;have y0:WA.cell? ⟨nB,0,none⟩=some (.int .i64 2):=by rw[Lib.cell_of_heap hA0];rfl
 clear HE hT hTA hbA hA0;clear hzA;go_wp2
 go_loopw [9,10,11] (fun vl vm i wr=>∃(k:Nat) (el em:List Value),k≤ls.length∧i=.int .i64 k∧BIn WA ls k wr vl vm el em) (fun _ _ i _=>ls.length -(intOf i).toNat)
 case atStart=>exact⟨0,[],[],Nat.zero_le _,rfl,⟨World.ownsRow_nil _ _ _ _,fun i v hv=>by simp at hv,fun i j u v _ hu=>by simp at hu⟩,⟨World.ownsRow_nil _ _ _ _,fun i v hv=>by simp at hv⟩,rfl,rfl,fun q hq=>by simp[Value.ownBlock]at hq,Below.refl _ _⟩
 case round=>
  obtain⟨k,el,em,hk,rfl,hI⟩:=hrel;clear y0;have hAr:=(hI.b.block nB hlA).trans (Xa HA0);have y1:wr.cell? ⟨nB,1,none⟩=some (.int .i64 a):=by rw[Lib.cell_of_heap hAr];rfl
  have y5:wr.cell? ⟨nB,5,none⟩=some (.slice lp ls.length lc):=by rw[Lib.cell_of_heap hAr];rfl
  obtain⟨pl,cl,e1,_⟩:=Xf hI.l.row;obtain⟨pm,cm,e2,_⟩:=Xf hI.m.row;rw[hI.ll]at e1;rw[hI.lm]at e2;subst e1 e2;by_cases hlt:k<ls.length
  ·rcases (Xa HT)with e0|⟨tb,off,rfl,htb,hct⟩
   ·subst e0;simp at hlt
   ·have ct0:=hct k hlt;have ct:=(hI.b.cell (p:=⟨tb,off+k,none⟩) htb).trans ct0;have hsl:ls[k]?=some ls[k]:=List.getElem?_eq_getElem hlt;have hss:=hsz _ (List.getElem_mem hlt);generalize ls[k]=s at*;have HSL:=hide hsl;have HI:=hide hI;have HLN:=hide fun(V:World) (hV:Xaz V wr)=>Xlc hV s a hss
    have HSZ:=hide hsz;have HCT:=hide ct0;clear hsl hI hct hsz hAr ct0;go_upto_region 14 with fail
    go_cut [12]from 62 to 89 (fun s12 wx=>∃p c,s12=.slice p s.size c∧Ye wx wr.heap.size p c s∧Below wr.heap.size wr wx)
    case first=>
     go_region_with (go_at_call 24;refine(Xa HLN wr.drew (XnS rfl rfl rfl rfl)).mono ?_;rintro e w5 ⟨p,c,rfl,hl,hb⟩)
     all_goals go_wp2_with fail
     all_goals go_meet
     all_goals exact⟨p,c,rfl,hl,hb⟩
    case rest=>
     obtain⟨p,c,rfl,hl,hb⟩:=hcut;rename_i wc
     have hzc:=hb.size;have hbW:=(Xa HI).b;have hzW:=hbW.size;have hrl:=((Xa HI).l.later hb).row;rw[(Xa HI).ll]at hrl;have HRL:=hide (World.ownsRow.alloc hrl (.cells #[.slice p s.size c] 28));have HLC:=hide (And.intro hl hb);clear hrl hl hb hbW y1 y5 ct HLN;go_wp2_with (at_builtin;refine wpList_append_own_at _ rfl _ _ 38 rfl WA.heap.size 28 i1 _ 1 24 Tryz.underlying38 hi1 hq0 hq1 hq2 rfl (by decide) _ _ _ rfl (Xa HRL) ⟨wc.heap.size,0,none⟩ 1 1 [.slice p s.size c] rfl rfl ?c1 ?c2 ?c3 ?c4 ?c5 ?_)
     case c1=>first|exact QS wc [.slice p s.size c] 28|exact fun j u hj=>hj
     case c2=>intro u hu;simp at hu;subst hu;rfl
     case c3=>unfold maxLen;omega
     case c4=>omega
     case c5=>first|(rw[Xk];omega)|omega
     intro v1 Y1 hown1 hg1 _ hb1;obtain⟨q1,q2,q3,q4⟩:=(Xa HI).one (Xa HLC).2 (Xa HLC).1 (Xa HSL) (by rw[(Xa HI).ll];exact hown1) hg1 hb1 (by first|omega|(rw[Xk];omega));obtain⟨pv,cv,rfl,_⟩:=Xf hown1;have ct:=(q4.cell (p:=⟨tb,off+k,none⟩) htb).trans (Xa HCT);have hAr:=(q4.block nB hlA).trans (Xa HA0);have y5:Y1.cell? ⟨nB,5,none⟩=some (.slice (some ⟨tb,off,none⟩) ls.length lc):=by rw[Lib.cell_of_heap hAr];rfl
     have hcv:=Q8 Y1 s;have hbc:=bytesWorld_below Y1 s;have hby:ByR (Lib.bytesWorld Y1 5 s) Y1.heap.size s:=⟨⟨_,_,Lib.bytesWorld_at_new Y1 _ s⟩,ZC Y1 s⟩;have hlC:=hby.lt;have hz4:=q4.size;generalize Lib.bytesWorld Y1 5 s=WC at*;generalize grownCap Y1 s.size 0 5=gc at*;have hzC:=hbc.size;have hrm:=(q2.later hbc).row;rw[(Xa HI).lm]at hrm;have HRM:=hide (World.ownsRow.alloc hrm (.cells #[.slice (some ⟨Y1.heap.size,0,none⟩) s.size gc] 28));have HQ:=hide (And.intro q1 (And.intro q2 (And.intro q3 q4)));have HBY:=hide (And.intro hbc hby);clear hown1 hg1 hb1 q1 q2 q3 q4 hrm hbc hby HRL HLC hAr;go_wp2_with (at_builtin;refine wpList_append_own_at _ rfl _ _ 38 rfl WA.heap.size 28 i1 _ 1 24 Tryz.underlying38 hi1 hq0 hq1 hq2 rfl (by decide) _ _ _ rfl (Xa HRM) ⟨WC.heap.size,0,none⟩ 1 1 [.slice (some ⟨Y1.heap.size,0,none⟩) s.size gc] rfl rfl ?d1 ?d2 ?d3 ?d4 ?d5 ?_)
     case d1=>first|exact QS WC [.slice (some ⟨Y1.heap.size,0,none⟩) s.size gc] 28|exact fun j u hj=>hj
     case d2=>intro u hu;simp at hu;subst hu;rfl
     case d3=>unfold maxLen;omega
     case d4=>omega
     case d5=>first|(rw[Xk];omega)|omega
     intro v2 Y2 hown2 hg2 _ hb2;obtain⟨q1,q2,q3,q4⟩:=Xa HQ;have q:=BIn.two (Xa HI).ll (Xa HI).lm q1 q2 q3 q4 (Xa HBY).1 (Xa HBY).2 (Xa HSL) (by rw[(Xa HI).lm];exact hown2) hg2 hb2 (by first|omega|(rw[Xk];omega));obtain⟨pw,cw,rfl,_⟩:=Xf hown2;have HEND:=hide q;clear q q1 q2 q3 q4 hown2 hg2 hb2 HQ HBY HRM HI y5 ct hcv;go_wp2
     go_roundw
     case rel=>exact⟨k+1,_,_,hlt,by go_num,Xa HEND⟩
     case measure=>simp[intOf];omega
  ·have hkt:k=ls.length:=by omega
   subst hkt;have hll:=hI.ll;have KB:=hide (XnY hI.l hI.ll hn hsz);have HI:=hide hI;clear hI hAr y1;go_wp2_with fail
   refine(Xa KB).mono ?_;rintro e W1 ⟨rfl,hb1⟩;have KR:=hide (Xd7 ((Xa HI).m.later hb1) (Xa HI).lm hn hsz);clear KB y5;go_wp2_with fail
   refine(Xa KR).mono ?_;rintro e W2 ⟨rfl,hb2⟩;have hb02:Below wr.heap.size wr W2:=hb1.trans (hb2.mono hb1.size)
   have HW0:Hid (WIn WA ls 0 W2 (.slice pl ls.length cl) el):=by
    have q:=(Xa HI).l.later hb02;exact⟨q.row,fun i v _ hv=>q.each i v hv,q.apart,(Xa HI).b.trans (hb02.mono (Xa HI).b.size)⟩
   clear KR hb1 hb2 hb02 HI;generalize Xah ls=bS;generalize Xa9 ls=bE;go_wp2
   go_loopw [17,18] (fun a i wq=>a=.bool true∧∃k:Nat,k≤ls.length∧i=.int .i64 k∧WIn WA ls k wq (.slice pl ls.length cl) el) (fun _ i _=>ls.length -(intOf i).toNat)
   case atStart=>exact⟨rfl,0,Nat.zero_le _,rfl,Xa HW0⟩
   case round=>
    obtain⟨rfl,k2,hk2,rfl,hW⟩:=hrel;clear HW0;have hAr:=(hW.b.block nB hlA).trans (Xa HA0);have y5:wr.cell? ⟨nB,5,none⟩=some (.slice lp ls.length lc):=by rw[Lib.cell_of_heap hAr];rfl
    by_cases hlt2:k2<ls.length
    ·rcases (Xa HT)with e0|⟨tb,off,rfl,htb,hct⟩
     ·subst e0;simp at hlt2
     ·have ct:=(hW.b.cell (p:=⟨tb,off+k2,none⟩) htb).trans (hct k2 hlt2);have hsl:ls[k2]?=some ls[k2]:=List.getElem?_eq_getElem hlt2;have hss:=hsz _ (List.getElem_mem hlt2);obtain⟨v,hv⟩:∃v,el[k2]?=some v:=⟨_,List.getElem?_eq_getElem (by omega)⟩;obtain⟨s2,p,c,e1,rfl,hL⟩:=hW.each k2 v (Nat.le_refl _) hv;rw[hsl]at e1;have e1:=Option.some.inj e1;subst e1;generalize ls[k2]=s at*;obtain⟨g,hgp,hgv,_,hcell⟩:=Xdr hW.row (by omega);have cE:=hcell k2 _ hv;simp only[Value.slice.injEq]at hgv;obtain⟨rfl,hle,rfl⟩:=hgv;clear hle e1;rw[Nat.zero_add]at cE;have HWH:=hide fun(V:World) (hV:Xaz V wr)=>Xkf hV hL hss
      have HSTEP:=hide fun(w':World) (hk:Xb (fun i=>some i=p.map (·.block)) wr w')=>hW.step hv hL hk
      clear hW hct hAr hcell hsl hv hL;go_upto_region 23 with fail
      go_cut [19]from 108 to 128 (fun s19 wx=>s19=.bool true∧Xb (fun i=>some i=p.map (·.block)) wr wx)
      case first=>
       go_region_with (go_at_call 26;refine(Xa HWH wr.drew (XnS rfl rfl rfl rfl)).mono ?_;rintro e w5 ⟨rfl,hk5⟩)
       all_goals go_wp2_with fail
       all_goals go_meet
       all_goals exact⟨rfl,hk5⟩
      case rest=>
       obtain⟨rfl,hk5⟩:=hcut;rename_i wc
       have HEND:=hide (Xa HSTEP wc hk5);clear HSTEP HWH hk5 cE ct y5;go_wp2
       go_roundw
       case rel=>exact⟨rfl,k2+1,hlt2,by go_num,Xa HEND⟩
       case measure=>simp[intOf];omega
    ·have hkt:k2=ls.length:=by omega
     subst hkt;have HEND:=hide (Xa HEW wr hW.b);clear hW hAr;go_wp2
     go_ret
     exact⟨rfl,Xa HEND⟩
end Go.Proofs.YtkalonhalhdlaaaGreatDoor
