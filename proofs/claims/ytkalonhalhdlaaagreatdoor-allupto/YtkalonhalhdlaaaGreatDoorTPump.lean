import Derived.Test.YtkalonhalhdlaaaGreatDoorG14
set_option maxHeartbeats 8000000
set_option maxRecDepth 100000
namespace Go.Proofs.YtkalonhalhdlaaaGreatDoor
open Go.RowKit
section
variable {w W:World}{own:Nat→Nat}{i b:Nat}{c:Cfg}{s:St}{cl:Bool}{q cm o ev:Value}{ce oe:List Value}
theorem XA.of {s':St}{e:Ending}{w':World}(hb:Below w.heap.size w W)(h:XA i b c s' cl own W e w'):XA i b c s' cl own w e w':=⟨h.1,h.2.choose,h.2.choose_spec.1,h.2.choose_spec.2.of hb⟩
theorem XA.behind {s':St}{e:Ending}{own1:Nat→Nat}{w':World}(u:Upd i own own1 w W)(h:XA i b c s' cl own1 W e w'):XA i b c s' cl own w e w':=⟨h.1,h.2.choose,h.2.choose_spec.1,u.trans h.2.choose_spec.2⟩
theorem TAt.did (h:TAt w own i b c s cl q cm o ev ce oe){s':St}{w':World}(hk:Xb (· =b) w w')(hh:XN w' b c s' cl q cm o ev)(e1:s'.queue=s.queue)(e2:s'.came=s.came)(e3:s'.out=s.out)(e4:s'.events=s.events)(hok:s'.fit c):XA i b c s' cl own w (.returned (.tuple #[])) w':=
 ⟨rfl,own,⟨_,_,_,_,_,_,h.wrote hk hh e1 e2 e3 e4 hok⟩,h.upd hk⟩
theorem TAt.Xhs {XC:Nat→Nat}{w0:World}(h:TAt w own i b c s cl q cm o ev ce oe)(u:Upd i XC own w0 w):∀n,XA i b c {s with timer:=0} cl XC w0 (.returned (.tuple #[])) ((w.drewN n).setCell ⟨b,12,none⟩ (.int .i64 (0:Nat))):=fun n=>by
 have h2:=h.drewN n;exact XA.behind u (XA.of (below_drewN (Below.refl _ w) n) (h2.did ((Xb.refl _ _).setB 12 (.int .i64 (0:Nat))) ((h2.hd.timer 0).as {s with timer:=0} rfl) rfl rfl rfl rfl ⟨h.sok.state,h.sok.vs,h.sok.va,h.sok.vr,h.sok.vm,h.sok.q20,h.sok.q32,Nat.zero_le _,h.sok.tries,h.sok.came⟩))
theorem TAt.Xht {XC:Nat→Nat}{w0:World}(h:TAt w own i b c s cl q cm o ev ce oe)(u:Upd i XC own w0 w):∀n,XA i b c {s with timer:=c.tim,tries:=1} cl XC w0 (.returned (.tuple #[])) (((w.drewN n).setCell ⟨b,12,none⟩ (.int .i64 c.tim)).setCell ⟨b,13,none⟩ (.int .i64 (1:Nat))):=fun n=>by
 have h2:=h.drewN n;exact XA.behind u (XA.of (below_drewN (Below.refl _ w) n) (h2.did (((Xb.refl _ _).setB 12 (.int .i64 c.tim)).setB 13 (.int .i64 (1:Nat))) (((h2.hd.timer c.tim).tries 1).as {s with timer:=c.tim,tries:=1} rfl) rfl rfl rfl rfl ⟨h.sok.state,h.sok.vs,h.sok.va,h.sok.vr,h.sok.vm,h.sok.q20,h.sok.q32,Nat.le_refl _,h.cok.tri1,h.sok.came⟩))
theorem TAt.Xee {XC:Nat→Nat}{w0:World}(h:TAt w own i b c s cl q cm o ev ce oe)(u:Upd i XC own w0 w):∀n,XA i b c s cl XC w0 (.returned (.tuple #[])) (w.drewN n):=fun n=>by
 exact XA.behind u (XA.of (below_drewN (Below.refl _ w) n) ⟨rfl,own,⟨_,_,_,_,_,_,h.drewN n⟩,Upd.refl _ _ _⟩)
def J5 (V w:World):Prop:=V.heap=w.heap∧V.os=w.os∧V.tape=w.tape∧V.output=w.output
theorem Xdj {V w:World}(h1:V.heap=w.heap)(h2:V.os=w.os)(h3:V.tape=w.tape)(h4:V.output=w.output):J5 V w:=⟨h1,h2,h3,h4⟩
theorem J5.bel {V w:World}(h:J5 V w)(B:Nat):Below B w V:=by
 obtain⟨h1,h2,h3,h4⟩:=h;exact⟨h2,h3,h4,by rw[h1];exact Nat.le_refl _,fun k _=>by rw[h1]⟩
theorem YZ.at {t:Nat}{v:Value}{l:List Msg}(h:YZ w own t v l)(k:Nat)(hk:k<l.length):∃g off cap p pc,v=.slice (some ⟨g,off,none⟩) l.length cap∧w.cell? ⟨g,off+k,none⟩=some (.slice p (l.getD k []).length pc)∧XU w p (l.getD k [])∧l.length≤cap∧cap≤maxLen:=by
 obtain⟨p,cap,rfl,h1,h2,h3⟩:=h;rcases h3 with⟨_,rfl⟩|⟨g,off,cur,rfl,hg,hc,hs,he⟩
 ·omega
 ·have hm:l[k]?=some l[k]:=List.getElem?_eq_getElem hk;have e:l.getD k []=l[k]:=by simp[List.getD,hm]
  obtain⟨x,hx1,hx2⟩:=he k _ hm;obtain⟨p,pc,hp⟩:=Yk hx2.1;refine⟨g,off,cap,p,pc,rfl,?_,?_,h1,h2⟩
  ·rw[Lib.cell_of_heap hc,hx1,hp,e]
  ·rw[e];have hb1:=hx2.1;rw[hp]at hb1;exact Xad hb1 rfl
theorem Xhf (hc:c.ok)(h:St.ok c s)(hm:YU c s=true):XF c s={Za c ⟨0,1,false,s.vs,s.vr,s.queue.getD (ahead c s s.vs) []⟩ s with vm:=if s.vs=s.vm then follow c s.vm else s.vm,vs:=follow c s.vs}:=by
 obtain⟨_,_,h3⟩:=Y9.1 hm;have hw:=hc.winm;have ha:ahead c s (follow c s.vs)=ahead c s s.vs+1:=JP hc h.vs h.va (by omega);have hs:=h.svs;by_cases hv:s.vs=s.vm
 ·have hlt:ahead c s s.vm<ahead c s (follow c s.vs):=by rw[ha,hv];omega
  have e:(if s.vs=s.vm then follow c s.vm else s.vm)=follow c s.vs:=by rw[if_pos hv,hv]
  rw[e];exact if_pos hlt
 ·have hlt:¬ahead c s s.vm<ahead c s (follow c s.vs):=by
   intro hlt;apply hv
   exact Xku hc h.va h.vs h.vm (by omega)
  have e:(if s.vs=s.vm then follow c s.vm else s.vm)=s.vm:=if_neg hv;rw[e];exact if_neg hlt
def XaO (i b:Nat)(c:Cfg)(s:St)(cl:Bool)(own:Nat→Nat)(w:World)(k:Nat)(wr:World):Prop:=
 ∃own' t,Ttn wr own' i b c t cl∧t.ok c∧t.Xh=false∧t.state=2∧Upd i own own' w wr∧YT c 16 s=YT c k t∧c.win<k+ahead c t t.vs∧t.out.length+k≤s.out.length+16
theorem Z7 (h:TAt w own i b c s cl q cm o ev ce oe)(hok:s.ok c)(h2:s.state=2)(hl:s.out.length+16≤2199023255552):
  Calls Tryz.prog 100 #[.pointer (some ⟨b,0,none⟩)] w fun e w'=>XA i b c (pump c s) cl own w e w':=by
 have hlt:=h.lt;by_cases hp:s.Xh=true
 ·have c14:=h.c14;have c15:=h.c15;have HP:Hid (pump c s=s):=hide (by unfold pump;rw[if_pos hp]);rw[hp]at c14;have D2:=hide (h.Xee (Upd.refl i own w));rw[Xa HP];clear h hp HP;generalize s.peer=pr at c15;cases pr
  all_goals
   go_enter Tryz.func100,Tryz.ntmps100
   go_wp2
   go_loopg [] 1 (fun k wr=>wr=w)
   case atStart=>rfl
   case round=>
    subst hrel;go_wp2
    try go_end0
    first|exact Xa D2 0|exact bodyPost_ret (results_none rfl _ _ _) rfl (Xa D2 0)
 ·have hp':s.Xh=false:=eq_false_of_ne_true hp;have HP0:Hid (pump c s=XV c (YT c 16 s)):=hide (by unfold pump;rw[if_neg hp]);have HI:Hid (XaO i b c s cl own w 16 w):=hide ⟨own,s,⟨_,_,_,_,_,_,h⟩,hok,hp',h2,Upd.refl _ _ _,rfl,by have:=h.cok.win15;omega,by omega⟩;clear h hp hp' hok h2;go_enter Tryz.func100,Tryz.ntmps100
  go_wp2
  go_loopg [] 16 (fun k wr=>XaO i b c s cl own w k wr)
  case atStart=>exact Xa HI
  case round=>
   obtain⟨own1,t,⟨q1,cm1,o1,ev1,ce1,oe1,h1⟩,hok,hpl,hst,u1,e1,hw,ho⟩:=hrel;clear HI;have hlt1:=h1.lt;have c14:=h1.c14;rw[hpl]at c14;have c15:=h1.c15;have HPL:=hide hpl;by_cases hpe:t.peer=true
   ·have E2:Hid (YT c 16 s=t):=hide (by
     rw[e1];cases gk with
     |zero=>rfl
     |succ k=>rw[YT,if_neg (by simp[YU,hpe])])
    have HP:Hid (pump c s=XV c t):=hide (by rw[Xa HP0,Xa E2]);have HX:=hide h1;have HU:=hide u1;rw[hpe]at c15;clear h1 u1 e1 hok E2 HP0 hpl;go_upto_region 7 with fail
    clear c14 c15 hpe;have h1:=Xa HX;have c8:=h1.c8;have c10:=h1.c10;have c12:=h1.c12;have c13:=h1.c13;have c14:=h1.c14;have c15:=h1.c15;have c2:=h1.c2;rw[Xa HPL]at c14;have fz:=h1.fz;have D0:=hide (h1.Xhs (Xa HU));have D1:=hide (h1.Xht (Xa HU));have D2:=hide (h1.Xee (Xa HU));clear h1 HX HU;by_cases hv:t.va=t.vm
    ·have t1:((t.va:Int)==(t.vm:Int))=true:=by simp[hv]
     by_cases hp:t.peer=false
     ·have HD:Hid (pump c s={t with timer:=0}):=hide (by rw[Xa HP];unfold XV;exact if_pos ⟨hv,hp⟩);clear HP;rw[hp]at c15;clear hp hv;go_wp2
      try go_quiet (fail)
      try go_wp2
      try go_end0
      rw[Xa HD]
      first|exact Xa D0 0|exact Xa D0 _
     ·by_cases h0:t.timer=0
      ·have HD:Hid (pump c s={t with timer:=c.tim,tries:=1}):=hide (by rw[Xa HP];unfold XV;rw[if_neg (fun hh=>hp hh.2),if_pos h0]);clear HP;rw[eq_true_of_ne_false hp]at c15;have t2:((t.timer:Int)==0)=true:=by simp[h0]
       clear hp hv h0;go_wp2
       try go_quiet (fail)
       try go_wp2
       try go_end0
       rw[Xa HD]
       first|exact Xa D1 0|exact Xa D1 _
      ·have HD:Hid (pump c s=t):=hide (by rw[Xa HP];unfold XV;rw[if_neg (fun hh=>hp hh.2),if_neg h0]);clear HP;rw[eq_true_of_ne_false hp]at c15;have t2:((t.timer:Int)==0)=false:=by simp[h0]
       clear hp hv h0;go_wp2
       try go_quiet (fail)
       try go_wp2
       try go_end0
       rw[Xa HD]
       first|exact Xa D2 0|exact Xa D2 _
    ·have t1:((t.va:Int)==(t.vm:Int))=false:=by simp;omega
     by_cases h0:t.timer=0
     ·have HD:Hid (pump c s={t with timer:=c.tim,tries:=1}):=hide (by rw[Xa HP];unfold XV;rw[if_neg (fun hh=>hv hh.1),if_pos h0]);clear HP;have t2:((t.timer:Int)==0)=true:=by simp[h0]
      clear hv h0;go_wp2
      try go_quiet (fail)
      try go_wp2
      try go_end0
      rw[Xa HD]
      first|exact Xa D1 0|exact Xa D1 _
     ·have HD:Hid (pump c s=t):=hide (by rw[Xa HP];unfold XV;rw[if_neg (fun hh=>hv hh.1),if_neg h0]);clear HP;have t2:((t.timer:Int)==0)=false:=by simp[h0]
      clear hv h0;go_wp2
      try go_quiet (fail)
      try go_wp2
      try go_end0
      rw[Xa HD]
      first|exact Xa D2 0|exact Xa D2 _
   ·have hpe':t.peer=false:=eq_false_of_ne_true hpe;rw[hpe']at c15;have c7:=h1.c7;have c8:=h1.c8;have c1:=h1.c1;have c11:wr.cell? ⟨b,11,none⟩=some q1:=h1.cell 11 rfl;have k1:=fun n=>XM (h1.drewN n) t.va t.vs h1.sok.va h1.sok.vs
    have hah:(t.vs+c.m-t.va)%c.m=ahead c t t.vs:=rfl;rw[hah]at k1;obtain⟨qp,qcap,hqv,hq1,hq2,hq3⟩:=h1.lq;have hq20:=h1.sok.q20;by_cases hm:YU c t=true
    ·obtain ⟨_,hm1,hm2⟩:=Y9.1 hm;clear hqv hq1 hq2 hq3 qp qcap;obtain⟨g,off,qcap,p,pc,hqv,hcell,hsrc,hq1,hq2⟩:=h1.lq.at _ hm1;subst hqv;have c9:=h1.c9;have hs:=fun V (hV:Below wr.heap.size wr V)=>YR (h1.later hV) true ⟨0,1,false,t.vs,t.vr,t.queue.getD (ahead c t t.vs) []⟩ p pc (hsrc.below hV (Nat.le_refl _)).e (by omega)
     unfold frV at hs;dsimp only at hs
     have hgk:0<gk:=by omega
     have hrr:=Xhf h1.cok hok hm;have hso:=Xam h1.cok hok hm hst;have hah2:=Xbi h1.cok h1.sok hm;have hou:=Xcw (c:=c) (s:=t)
     have hpn:YT c 16 s=YT c (gk-1) (XF c t):=by
      rw[e1];obtain⟨k',rfl⟩:∃k',gk=k'+1:=⟨gk-1,by omega⟩;rw[YT,if_pos hm];rfl
     have HEND:Hid (∀ W own2 q2 cm2 o2 ev2 ce2 oe2,TAt W own2 i b c (XF c t) cl q2 cm2 o2 ev2 ce2 oe2→Upd i own1 own2 wr W→XaO i b c s cl own w (gk-1) W):=by
      intro W own2 q2 cm2 o2 ev2 ce2 oe2 hW uW;exact⟨own2,_,⟨_,_,_,_,_,_,hW⟩,hso,by rw[Xa4];exact hpl,by rw[Qu];exact hst,u1.trans uW,hpn,by omega,by omega⟩
     rw[hrr]at HEND;have HS:=hide hs;have HFIT:=hide h1.sok;have HCOK:=hide h1.cok;have hmI:((c.m:Int)==0)=false:=by have:=h1.cok.pos;simp;omega
     have hm0:0<c.m:=h1.cok.pos;have hm8:c.m≤128:=by have:=h1.cok.m;omega
     have hvs8:=h1.sok.vs;have hvm8:=h1.sok.vm;unfold maxLen at hq2;clear hs h1 hrr hso hah2 hou hpn hok hsrc e1 u1 HP0 hpl hpe hpe' hm hah hst ho;generalize t.queue.getD (ahead c t t.vs) []=msg at*;generalize hk0:ahead c t t.vs=k at k1 hm1 hm2 hcell hw;clear hk0 hw;have hk1I:¬((t.queue.length:Nat):Int)≤(k:Int):=by omega
     have hk2I:¬((c.win:Nat):Int)≤(k:Int):=by omega
     have hk3I:(k:Int)<((t.queue.length:Nat):Int):=by omega
     go_wp2_with fail
     go_quiet (first|(go_at_call 133;exact Calls.quiet_of (k1 _)))
     go_upto_region 3 with fail
     go_cut []from 3 to 95 (fun wx=>∃w1 own2 o2 oe2,wx=w1∧TAt w1 own2 i b c (XgZ c true ⟨0,1,false,t.vs,t.vr,msg⟩ t) cl (.slice (some ⟨g,off,none⟩) t.queue.length qcap) cm1 o2 ev1 ce1 oe2∧Upd i own1 own2 wr w1)
     case first=>
      go_region_with (go_at_call 103;refine(Xa HS _ ?_).mono ?_;(first|exact below_drewN (Below.refl _ wr) _|exact(below_drewN (Below.refl _ wr) _).drew);rintro e w1 ⟨rfl,own2,o2,oe2,h2,u2⟩)
      all_goals go_wp2_with fail
      all_goals go_meet
      all_goals exact⟨_,own2,o2,oe2,rfl,h2,Upd.of (w:=wr) (below_drewN (Below.refl _ wr) _) u2⟩
     case rest=>
     obtain⟨w1,own2,o2,oe2,hw1,h2,u2⟩:=hcut;rw[hw1];clear hw1;have HU:=hide u2;clear HS k1 c1 c7 c8 c9 c11 c14 c15 hcell u2;have d0:w1.cell? ⟨b,0,none⟩=some (.int .i64 c.m):=h2.cell 0 rfl;have d7:w1.cell? ⟨b,7,none⟩=some (.int .i64 t.vs):=h2.cell 7 rfl;have d10:w1.cell? ⟨b,10,none⟩=some (.int .i64 t.vm):=h2.cell 10 rfl;have fz:=h2.fz;have hlt2:=h2.lt;have hf1:((t.vm:Int)+1)%(c.m:Int)=((follow c t.vm:Nat):Int):=rfl;have hf2:((t.vs:Int)+1)%(c.m:Int)=((follow c t.vs:Nat):Int):=rfl;have hfl1:=QW (Xa HCOK) t.vm;have hfl2:=QW (Xa HCOK) t.vs;have fok:=Xa HFIT;by_cases hv:t.vs=t.vm
     ·have hvI:((t.vs:Int)==(t.vm:Int))=true:=by simp[hv]
      have HE2:Hid (∀ W,J5 W ((w1.setCell ⟨b,10,none⟩ (.int .i64 (follow c t.vm:Nat))).setCell ⟨b,7,none⟩ (.int .i64 (follow c t.vs:Nat)))→XaO i b c s cl own w (gk-1) W):=by
       intro W hW;have hK:Xb (· =b) w1 ((w1.setCell ⟨b,10,none⟩ (.int .i64 (follow c t.vm:Nat))).setCell ⟨b,7,none⟩ (.int .i64 (follow c t.vs:Nat))):=((Xb.refl _ w1).setB 10 _).setB 7 _;have h3:=h2.wrote hK (((h2.hd.vm (follow c t.vm)).vs (follow c t.vs)).as {Za c ⟨0,1,false,t.vs,t.vr,msg⟩ t with vm:=follow c t.vm,vs:=follow c t.vs} rfl) rfl rfl rfl rfl ⟨fok.state,hfl2,fok.va,fok.vr,hfl1,fok.q20,fok.q32,fok.timer,fok.tries,fok.came⟩;have h4:=h3.later (hW.bel _);have e:(if t.vs=t.vm then follow c t.vm else t.vm)=follow c t.vm:=if_pos hv;refine Xa HEND W own2 _ _ _ _ _ _ (by rw[e];exact h4) (((Xa HU).trans (h2.upd hK)).trans ⟨Xb.of (hW.bel _),fun _ _=>rfl⟩)
      clear h2 HU HEND hv fok hfl1 hfl2 HFIT HCOK;go_wp2_with fail
      go_quiet (fail)
      go_wp2_with fail
      go_region
      all_goals go_wp2_with fail
      all_goals go_region
      all_goals go_wp2
      all_goals
       go_roundg (gk-1)
       case measure=>omega
       case rel=>
        refine Xa HE2 _ ?_;exact Xdj rfl rfl rfl rfl
     ·have hvI:((t.vs:Int)==(t.vm:Int))=false:=by simp;omega
      have HE2:Hid (∀ W,J5 W (w1.setCell ⟨b,7,none⟩ (.int .i64 (follow c t.vs:Nat)))→XaO i b c s cl own w (gk-1) W):=by
       intro W hW;have hK:Xb (· =b) w1 (w1.setCell ⟨b,7,none⟩ (.int .i64 (follow c t.vs:Nat))):=(Xb.refl _ w1).setB 7 _;have h3:=h2.wrote hK ((h2.hd.vs (follow c t.vs)).as {Za c ⟨0,1,false,t.vs,t.vr,msg⟩ t with vs:=follow c t.vs} rfl) rfl rfl rfl rfl ⟨fok.state,hfl2,fok.va,fok.vr,fok.vm,fok.q20,fok.q32,fok.timer,fok.tries,fok.came⟩;have h4:=h3.later (hW.bel _);have e:(if t.vs=t.vm then follow c t.vm else t.vm)=t.vm:=if_neg hv;refine Xa HEND W own2 _ _ _ _ _ _ (by rw[e];exact h4) (((Xa HU).trans (h2.upd hK)).trans ⟨Xb.of (hW.bel _),fun _ _=>rfl⟩)
      clear h2 HU HEND hv fok hfl1 hfl2 HFIT HCOK;go_wp2_with fail
      go_quiet (fail)
      go_wp2_with fail
      go_region
      all_goals go_wp2
      all_goals
       go_roundg (gk-1)
       case measure=>omega
       case rel=>
        refine Xa HE2 _ ?_;exact Xdj rfl rfl rfl rfl
    ·have E2:Hid (YT c 16 s=t):=hide (by
      rw[e1];cases gk with
      |zero=>rfl
      |succ k=>rw[YT,if_neg hm])
     have hno:t.queue.length≤ahead c t t.vs∨c.win≤ahead c t t.vs:=by
      by_cases h5:t.queue.length≤ahead c t t.vs
      ·exact .inl h5
      ·by_cases h6:c.win≤ahead c t t.vs
       ·exact .inr h6
       ·exact absurd (Y9.2 ⟨hpe',by omega,by omega⟩) hm
     have HP:Hid (pump c s=XV c t):=hide (by rw[Xa HP0,Xa E2]);have HX:=hide h1;have HU:=hide u1;rw[hqv]at c11;clear h1 u1 e1 hok E2 HP0 hpl hpe hpe' hm hq3 hah;generalize hk0:ahead c t t.vs=k at k1 hno hw;clear hk0;go_wp2_with fail
     go_quiet (first|(go_at_call 133;exact Calls.quiet_of (k1 _)))
     have HX2:=hide ((Xa HX).drewN nq);have HU2:=hide ((Xa HU).trans (⟨(Xb.refl _ wr).drewN nq,fun _ _=>rfl⟩:Upd i own1 own1 wr (wr.drewN nq)));have c1:(wr.drewN nq).cell? ⟨b,1,none⟩=some (.int .i64 c.win):=c1;have c11:(wr.drewN nq).cell? ⟨b,11,none⟩=some (.slice qp t.queue.length qcap):=c11;clear HX HU k1 c7 c8 c14 c15;generalize wr.drewN nq=wq at*;have HX:=HX2;have HU:=HU2;clear HX2 HU2;by_cases h5:t.queue.length≤k
     ·have h5I:((t.queue.length:Nat):Int)≤(k:Int):=by omega
      clear hno;go_upto_region 7 with fail
      have h1:=Xa HX;have c8:=h1.c8;have c10:=h1.c10;have c12:=h1.c12;have c13:=h1.c13;have c14:=h1.c14;have c15:=h1.c15;have c2:=h1.c2;rw[Xa HPL]at c14;have fz:=h1.fz;have D0:=hide (h1.Xhs (Xa HU));have D1:=hide (h1.Xht (Xa HU));have D2:=hide (h1.Xee (Xa HU));clear h1 HX HU;by_cases hv:t.va=t.vm
      ·have t1:((t.va:Int)==(t.vm:Int))=true:=by simp[hv]
       by_cases hp:t.peer=false
       ·have HD:Hid (pump c s={t with timer:=0}):=hide (by rw[Xa HP];unfold XV;exact if_pos ⟨hv,hp⟩);clear HP;rw[hp]at c15;clear hp hv;go_wp2
        try go_quiet (fail)
        try go_wp2
        try go_end0
        rw[Xa HD]
        first|exact Xa D0 0|exact Xa D0 _
       ·by_cases h0:t.timer=0
        ·have HD:Hid (pump c s={t with timer:=c.tim,tries:=1}):=hide (by rw[Xa HP];unfold XV;rw[if_neg (fun hh=>hp hh.2),if_pos h0]);clear HP;rw[eq_true_of_ne_false hp]at c15;have t2:((t.timer:Int)==0)=true:=by simp[h0]
         clear hp hv h0;go_wp2
         try go_quiet (fail)
         try go_wp2
         try go_end0
         rw[Xa HD]
         first|exact Xa D1 0|exact Xa D1 _
        ·have HD:Hid (pump c s=t):=hide (by rw[Xa HP];unfold XV;rw[if_neg (fun hh=>hp hh.2),if_neg h0]);clear HP;rw[eq_true_of_ne_false hp]at c15;have t2:((t.timer:Int)==0)=false:=by simp[h0]
         clear hp hv h0;go_wp2
         try go_quiet (fail)
         try go_wp2
         try go_end0
         rw[Xa HD]
         first|exact Xa D2 0|exact Xa D2 _
      ·have t1:((t.va:Int)==(t.vm:Int))=false:=by simp;omega
       by_cases h0:t.timer=0
       ·have HD:Hid (pump c s={t with timer:=c.tim,tries:=1}):=hide (by rw[Xa HP];unfold XV;rw[if_neg (fun hh=>hv hh.1),if_pos h0]);clear HP;have t2:((t.timer:Int)==0)=true:=by simp[h0]
        clear hv h0;go_wp2
        try go_quiet (fail)
        try go_wp2
        try go_end0
        rw[Xa HD]
        first|exact Xa D1 0|exact Xa D1 _
       ·have HD:Hid (pump c s=t):=hide (by rw[Xa HP];unfold XV;rw[if_neg (fun hh=>hv hh.1),if_neg h0]);clear HP;have t2:((t.timer:Int)==0)=false:=by simp[h0]
        clear hv h0;go_wp2
        try go_quiet (fail)
        try go_wp2
        try go_end0
        rw[Xa HD]
        first|exact Xa D2 0|exact Xa D2 _
     ·have h5I:¬((t.queue.length:Nat):Int)≤(k:Int):=by omega
      have h6I:((c.win:Nat):Int)≤(k:Int):=by omega
      clear hno;go_upto_region 7 with fail
      have h1:=Xa HX;have c8:=h1.c8;have c10:=h1.c10;have c12:=h1.c12;have c13:=h1.c13;have c14:=h1.c14;have c15:=h1.c15;have c2:=h1.c2;rw[Xa HPL]at c14;have fz:=h1.fz;have D0:=hide (h1.Xhs (Xa HU));have D1:=hide (h1.Xht (Xa HU));have D2:=hide (h1.Xee (Xa HU));clear h1 HX HU;by_cases hv:t.va=t.vm
      ·have t1:((t.va:Int)==(t.vm:Int))=true:=by simp[hv]
       by_cases hp:t.peer=false
       ·have HD:Hid (pump c s={t with timer:=0}):=hide (by rw[Xa HP];unfold XV;exact if_pos ⟨hv,hp⟩);clear HP;rw[hp]at c15;clear hp hv;go_wp2
        try go_quiet (fail)
        try go_wp2
        try go_end0
        rw[Xa HD]
        first|exact Xa D0 0|exact Xa D0 _
       ·by_cases h0:t.timer=0
        ·have HD:Hid (pump c s={t with timer:=c.tim,tries:=1}):=hide (by rw[Xa HP];unfold XV;rw[if_neg (fun hh=>hp hh.2),if_pos h0]);clear HP;rw[eq_true_of_ne_false hp]at c15;have t2:((t.timer:Int)==0)=true:=by simp[h0]
         clear hp hv h0;go_wp2
         try go_quiet (fail)
         try go_wp2
         try go_end0
         rw[Xa HD]
         first|exact Xa D1 0|exact Xa D1 _
        ·have HD:Hid (pump c s=t):=hide (by rw[Xa HP];unfold XV;rw[if_neg (fun hh=>hp hh.2),if_neg h0]);clear HP;rw[eq_true_of_ne_false hp]at c15;have t2:((t.timer:Int)==0)=false:=by simp[h0]
         clear hp hv h0;go_wp2
         try go_quiet (fail)
         try go_wp2
         try go_end0
         rw[Xa HD]
         first|exact Xa D2 0|exact Xa D2 _
      ·have t1:((t.va:Int)==(t.vm:Int))=false:=by simp;omega
       by_cases h0:t.timer=0
       ·have HD:Hid (pump c s={t with timer:=c.tim,tries:=1}):=hide (by rw[Xa HP];unfold XV;rw[if_neg (fun hh=>hv hh.1),if_pos h0]);clear HP;have t2:((t.timer:Int)==0)=true:=by simp[h0]
        clear hv h0;go_wp2
        try go_quiet (fail)
        try go_wp2
        try go_end0
        rw[Xa HD]
        first|exact Xa D1 0|exact Xa D1 _
       ·have HD:Hid (pump c s=t):=hide (by rw[Xa HP];unfold XV;rw[if_neg (fun hh=>hv hh.1),if_neg h0]);clear HP;have t2:((t.timer:Int)==0)=false:=by simp[h0]
        clear hv h0;go_wp2
        try go_quiet (fail)
        try go_wp2
        try go_end0
        rw[Xa HD]
        first|exact Xa D2 0|exact Xa D2 _
end
end Go.Proofs.YtkalonhalhdlaaaGreatDoor
