import Derived.Test.YtkalonhalhdlaaaGreatDoorG07
import Derived.Shelf.SlicesE.Delete
import Derived.Conc.LoneSelect
import Derived.Lib.ConvBytes
set_option maxHeartbeats 4000000
set_option maxRecDepth 100000
namespace Go.Proofs.YtkalonhalhdlaaaGreatDoor
open Go.RowKit
section
variable {w W:World}{own:Nat→Nat}{i b:Nat}{c:Cfg}{s:St}{cl:Bool}{ch:Nat}{q cm o ev:Value}{qe ce oe:List Value}
theorem Lst.at {w:World}{own:Nat→Nat}{t:Nat}{v:Value}{ents:List Value}{l:List Msg}(h:Lst w own t v ents l)(k:Nat)(hk:k<l.length):∃g cap p pc,v=.slice (some ⟨g,0,none⟩) l.length cap∧w.cell? ⟨g,k,none⟩=some (.slice p (l.getD k []).length pc)∧XU w p (l.getD k [])∧l.length≤cap∧cap≤maxLen:=by
 have hl:=h.len;obtain⟨p0,cap,hv,h1,h2⟩:=h.slice;rcases h.row.2 with⟨_,h0⟩|⟨g,cap',cur,hv',_⟩
 ·omega
 ·have hr:=h.row;rw[hv']at hr;have hc:=hr.cellAt k (by omega);have hx:ents[k]?=some ents[k]:=List.getElem?_eq_getElem (by omega);have hm:l[k]?=some l[k]:=List.getElem?_eq_getElem hk;have hb:=h.each k _ _ hx hm;obtain⟨p,pc,hp⟩:=Yk hb.1;have e:l.getD k []=l[k]:=by simp[List.getD,hm]
  rw[hv]at hv';simp only[Value.slice.injEq]at hv';obtain⟨rfl,_,rfl⟩:=hv';refine⟨g,cap,p,pc,hv,?_,?_,h1,h2⟩
  ·rw[hc,hx,hp,e]
  ·rw[e];have hb1:=hb.1;rw[hp]at hb1;exact Xad hb1 rfl
theorem Xhd (h:SAt w own i b c s cl ch q cm o ev qe ce oe)(hm:ahead c s s.vs<s.queue.length)(hl:s.out.length≤2199023255552):
  Calls Tryz.prog 131 #[.pointer (some ⟨b,0,none⟩)] w fun e w'=>Did i b c (XF c s) cl own w e w':=by
 obtain⟨g,cap,p,pc,rfl,hcell,hsrc,hq1,hq2⟩:=h.lq.at _ hm;have c8:=h.Xas;have c10:=h.Xce;have c12:=h.c_q;have hlt:=h.lt;have k1:=fun n=>Qx (h.drewN n) s.vs h.sok.vs
 have hk:=fun V (hV:Below w.heap.size w V)=>Qg (h.later hV) ⟨0,1,false,s.vs,s.vr,s.queue.getD (ahead c s s.vs) []⟩ p pc (hsrc.below hV (Nat.le_refl _)) hl
 unfold frV at hk;dsimp only at hk
 have hq20:=h.sok.q20;have hsok:=h.sok;have hcok:=h.cok;have HS:=hide hk;have HSOK:=hide hsok;have HCOK:=hide hcok;generalize hmsg:s.queue.getD (ahead c s s.vs) []=msg at hcell HS;have HMSG:=hide hmsg;clear hk h hsrc hmsg hsok hcok;unfold maxLen at hq2;generalize hk0:ahead c s s.vs=k at k1 hm hcell;have HK0:=hide hk0;clear hk0;go_enter Tryz.func131,Tryz.ntmps131
 go_wp2_with fail
 go_quiet (first|(go_at_call 152;exact Calls.quiet_of (k1 _)))
 go_wp2_with fail
 go_region_held3 (fun w'=>w'.cell? ⟨b,8,none⟩=some (.int .i64 s.vs)∧w'.cell? ⟨b,10,none⟩=some (.int .i64 s.vr)) (first|go_keep|exact⟨h1.Xas,h1.Xce⟩) (first|(go_at_call 129;refine(Xa HS _ ?_).mono ?_;(first|exact below_drewN (Below.refl _ w) _|exact(below_drewN (Below.refl _ w) _).drew);rintro e w1 ⟨rfl,own1,⟨ch1,q1,cm1,o1,ev1,qe1,ce1,oe1,h1⟩,u1⟩))
 have HU:=hide (Upd.of (w:=w) (below_drewN (Below.refl _ w) _) u1);have d8:=h1.Xas;have d11:=h1.Xf4;have fz:=h1.fz;have hlt1:=h1.lt;have k2:=XbX h1 s.vs (Xa HSOK).vs;have H1:=hide h1;have K2:=hide k2;clear h1 u1 HS k1 k2 c8 c10 c12 hcell;dsimp only[Za,put]at d8 d11
 go_wp2_with fail
 refine(Xa K2).mono ?_;rintro e w2 ⟨rfl,n2,rfl⟩;clear K2;have h1:=(Xa H1).drewN n2;have fok:=Xa HSOK;have hfl:=QW (Xa HCOK) s.vs;have hK:Xb (· =b) (w1.drewN n2) _:=(Xb.refl _ (w1.drewN n2)).setB 8 (.int .i64 (follow c s.vs:Nat));have h2:=h1.wrote hK ((h1.hd.vs (follow c s.vs)).as {Za c ⟨0,1,false,s.vs,s.vr,msg⟩ s with vs:=follow c s.vs} rfl) rfl rfl rfl rfl ⟨fok.state,hfl,fok.va,fok.vr,fok.vm,fok.q20,fok.q32,fok.timer,fok.tries,fok.came⟩;have hU:=((Xa HU).trans (Upd.of (below_drewN (Below.refl _ w1) n2) (h1.upd hK)))
 have hpost:XF c s=JZ c {Za c ⟨0,1,false,s.vs,s.vr,msg⟩ s with vs:=follow c s.vs}:=by
  unfold XF;rw[Xa HMSG]
 have d8':=h2.Xas;have d11':=h2.Xf4;have fz2:=h2.fz;have hlt2:=h2.lt;have k3:=fun j=>Qx (h2.drewN j) s.vm fok.vm
 have k4:=fun j=>Qx (h2.drewN j) (follow c s.vs) hfl
 have H2:=hide h2;have HU2:=hide hU;generalize ht:({Za c ⟨0,1,false,s.vs,s.vr,msg⟩ s with vs:=follow c s.vs}:St)=t at k3 k4 H2 hpost;have hup:JZ c t=if ahead c t s.vm<ahead c t (follow c s.vs)then {t with vm:=follow c s.vs} else t:=by rw[← ht];rfl
 have htq:t.fit c:=(Xa H2).sok;have HT:=hide htq;have HUP:=hide (hpost.trans hup);dsimp only[Za,put]at d8' d11'
 clear ht hup htq h2 hU hpost h1 hK fok H1 HU HMSG HK0 hm hq20 hq1 hq2 HCOK;generalize hx:ahead c t s.vm=x at k3 HUP;generalize hy:ahead c t (follow c s.vs)=y at k4 HUP;clear hx hy;generalize hfo:follow c s.vs=fo at*;clear hfo;by_cases hxy:x<y
 ·have HP:Hid (XF c s={t with vm:=fo}):=hide (by rw[Xa HUP,if_pos hxy]);clear HUP;go_wp2_with fail
  go_quiet (first|(go_at_call_of 152 ((s.vm:Int));exact Calls.quiet_of (k3 _))|(go_at_call_of 152 ((fo:Int));exact Calls.quiet_of (k4 _)))
  clear k3 k4;go_wp2
  go_end0
  rw[Xa HP];have h2:=(Xa H2).drewN nq;have hd:=Did.of (below_drewN (Below.refl _ _) nq) (h2.did (s':={t with vm:=fo}) ((Xb.refl _ _).setB 11 (.int .i64 (fo:Nat))) (h2.hd.vm fo) rfl rfl rfl rfl ⟨h2.sok.state,h2.sok.vs,h2.sok.va,h2.sok.vr,hfl,h2.sok.q20,h2.sok.q32,h2.sok.timer,h2.sok.tries,h2.sok.came⟩);obtain⟨_,own3,h3,u3⟩:=hd;exact⟨rfl,own3,h3,(Xa HU2).trans u3⟩
 ·have HP:Hid (XF c s=t):=hide (by rw[Xa HUP,if_neg hxy]);clear HUP;go_wp2_with fail
  go_quiet (first|(go_at_call_of 152 ((s.vm:Int));exact Calls.quiet_of (k3 _))|(go_at_call_of 152 ((fo:Int));exact Calls.quiet_of (k4 _)))
  clear k3 k4;go_wp2
  go_end0
  rw[Xa HP];exact⟨rfl,own1,⟨_,_,_,_,_,_,_,_,(Xa H2).drewN nq⟩,(Xa HU2).trans (Upd.of (below_drewN (Below.refl _ _) nq) (Upd.refl _ _ _))⟩
end
section
variable {w W:World}{own:Nat→Nat}{i b:Nat}{c:Cfg}{s:St}{cl:Bool}{ch:Nat}{q cm o ev:Value}{qe ce oe:List Value}
theorem Xbi (hc:c.ok)(h:St.fit c s)(hm:YU c s=true):ahead c (XF c s) (XF c s).vs=ahead c s s.vs+1:=by
 obtain⟨_,_,h3⟩:=Y9.1 hm;rw[Xc4];show(_+c.m -(XF c s).va)%c.m=_
 rw[Xc3];exact JP hc h.vs h.va (by have:=hc.winm;omega)
theorem Xcw:(XF c s).out.length=s.out.length+1:=by
 unfold XF JZ;split <;> simp[Za,put]
def Xbo (i b:Nat)(c:Cfg)(s:St)(cl:Bool)(own:Nat→Nat)(w:World)(k:Nat)(wr:World):Prop:=
 ∃own' t,Stn wr own' i b c t cl∧Upd i own own' w wr∧YT c 16 s=YT c k t∧c.win<k+ahead c t t.vs∧t.out.length+k≤s.out.length+16
theorem Xbo.start (h:SAt w own i b c s cl ch q cm o ev qe ce oe):Xbo i b c s cl own w 16 w:=
 ⟨own,s,⟨_,_,_,_,_,_,_,_,h⟩,Upd.refl _ _ _,rfl,by have:=h.cok.win15;omega,by omega⟩
theorem XaZ (h:SAt w own i b c s cl ch q cm o ev qe ce oe)(hl:s.out.length+16≤2199023255552):
  Calls Tryz.prog 99 #[.pointer (some ⟨b,0,none⟩)] w fun e w'=>Did i b c (pump c s) cl own w e w':=by
 have c15:=h.Zz;have hlt:=h.lt;by_cases hp:s.Xh=true
 ·have HP:Hid (pump c s=s):=hide (by unfold pump;rw[if_pos hp]);rw[hp]at c15;have H:=hide h;clear h hp;go_enter Tryz.func99,Tryz.ntmps99
  go_wp2
  refine bodyPost_ret (results_none rfl _ _ _) rfl ?_;rw[Xa HP];exact(Xa H).idle
 ·have hp':s.Xh=false:=eq_false_of_ne_true hp;have HP:Hid (pump c s=XV c (YT c 16 s)):=hide (by unfold pump;rw[if_neg hp]);rw[hp']at c15;have HI:=hide (Xbo.start h);clear h hp hp';go_enter Tryz.func99,Tryz.ntmps99
  go_wp2
  go_loopg [] 16 (fun k wr=>Xbo i b c s cl own w k wr)
  case atStart=>exact Xa HI
  case round=>
   obtain⟨own',t,⟨ch1,q1,cm1,o1,ev1,qe1,ce1,oe1,h1⟩,u1,e1,hw,ho⟩:=hrel;have k1:=XdZ h1;have E1:=hide e1;have U1:=hide u1;have H1:=hide h1;clear e1 u1 h1 HI;by_cases hm:YU c t=true
   ·rw[hm]at k1;have hm':=hide hm;clear hm;go_wp2_with fail
    refine k1.mono ?_;rintro e w2 ⟨rfl,n2,rfl⟩;clear k1;have h2:=(Xa H1).drewN n2;have k2:=Xhd h2 (Y9.1 (Xa hm')).2.1 (by omega);have K2:=hide k2;clear k2 h2;go_wp2_with fail
    refine(Xa K2).mono ?_;rintro e w3 ⟨rfl,own3,h3,u3⟩
    have HR:Hid (Xbo i b c s cl own w (gk-1) w3):=by
     have h1:=Xa H1;have hmm:=Xa hm';have ha:=Xbi h1.cok h1.sok hmm;have hlt:=(Y9.1 hmm).2.2;have hso:=Xcw (c:=c) (s:=t);refine⟨own3,XF c t,h3,(Xa U1).trans (Upd.of (below_drewN (Below.refl _ _) _) u3),?_,by omega,by omega⟩;rw[Xa E1];obtain⟨k',rfl⟩:∃k',gk=k'+1:=⟨gk-1,by omega⟩;rw[YT,if_pos hmm];rfl
    have hgk:0<gk:=by have:=(Y9.1 (Xa hm')).2.2;omega
    clear h3 u3 K2 H1 U1 E1 hm';go_wp2
    go_roundg (gk-1)
    case measure=>omega
    case rel=>exact Xa HR
   ·have hm0:YU c t=false:=eq_false_of_ne_true hm;rw[hm0]at k1
    have E2:Hid (YT c 16 s=t):=hide (by
     rw[Xa E1];cases gk with
     |zero=>rfl
     |succ k=>rw[YT,if_neg hm])
    clear hm hm0;go_wp2_with fail
    refine k1.mono ?_;rintro e w2 ⟨rfl,n2,rfl⟩;clear k1;have K3:=hide (Xhh ((Xa H1).drewN n2));go_wp2_with fail
    refine(Xa K3).mono ?_;rintro e w3 ⟨rfl,own3,h3,u3⟩;have HR:=hide (And.intro h3 ((Xa U1).trans (Upd.of (below_drewN (Below.refl _ _) _) u3)));clear h3 u3 K3 H1 U1;go_wp2
    go_end0
    rw[Xa HP,Xa E2];exact⟨rfl,own3,(Xa HR).1,(Xa HR).2⟩
end
end Go.Proofs.YtkalonhalhdlaaaGreatDoor
namespace Go.Proofs
open Go.Shelf
def Tryz.XfA:Go.Shelf.Ren:=⟨fun|45=>172|n=>n,fun|0=>0|3=>3|4=>4|22=>38|23=>28|n=>n,fun|n=>n⟩
theorem Tryz.Xk3:Go.Proofs.SlLaysE.n45 Tryz.prog Tryz.XfA:={
 mixed:=by kernel_rfl
 f45 := ⟨ "slices.Delete[[][]byte,[]byte]", by decide, Tryz.func172.trans (congrArg some (by kernel_rfl))⟩
 t0:=Tryz.underlying0
 a0:=Tryz.isAgg0
 z0:=Tryz.sizeOf0
 v0:=Tryz.zeroValue0
 t3:=Tryz.underlying3
 a3:=Tryz.isAgg3
 z3:=Tryz.sizeOf3
 v3:=Tryz.zeroValue3
 t4:=Tryz.underlying4
 a4:=Tryz.isAgg4
 z4:=Tryz.sizeOf4
 v4:=Tryz.zeroValue4
 t22:=Tryz.underlying38
 a22:=Tryz.isAgg38
 z22:=Tryz.sizeOf38
 v22:=Tryz.zeroValue38
 a23:=Tryz.isAgg28
 z23:=Tryz.sizeOf28}
end Go.Proofs
namespace Go.Proofs.YtkalonhalhdlaaaGreatDoor
open Go.RowKit
def encS (x:Option Addr×Nat×Nat):Value:=.slice x.1 x.2.1 x.2.2
theorem XkO:∀ents:List Value,(∀ x∈ents,∃p n c,x=.slice p n c)→∃ds:List (Option Addr×Nat×Nat),ents=ds.map encS:=by
 intro ents;induction ents with
 |nil=>exact fun _=>⟨[],rfl⟩
 |cons x r ih=>
  intro h;obtain⟨ds,hd⟩:=ih (fun y hy=>h y (List.mem_cons_of_mem _ hy));obtain⟨p,n,c,rfl⟩:=h x List.mem_cons_self;exact⟨(p,n,c)::ds,by rw[hd];rfl⟩
theorem XdG (g n cap L:Nat)(ents:List Value)(w:World)(hr:w.ownsRow 0 28 1 (.slice (some ⟨g,0,none⟩) L cap) L ents)(hs:∀x∈ents,∃p n c,x=.slice p n c)(hn:n≤L):
  Calls Tryz.prog 172 #[.slice (some ⟨g,0,none⟩) L cap,.int .i64 0,.int .i64 n] w fun e w'=>e=.returned (.slice (some ⟨g,0,none⟩) (L-n) cap)∧w'.ownsRow 0 28 1 (.slice (some ⟨g,0,none⟩) (L-n) cap) (L-n) (ents.drop n)∧Xb (· =g) w w':=by
 obtain⟨ds,rfl⟩:=XkO ents hs;have hlen:ds.length=L:=by have:=hr.1;simpa using this
 obtain⟨cur,hg,hc1,hc2,hc3,ht⟩:∃cur,w.heap[g]?=some (.cells cur 28 (0,0))∧L≤cap∧cap≤maxLen∧cur.size=cap*1∧cur.toList.take (L*1)=ds.map encS:=by
  rcases hr.2 with⟨h1,_⟩|⟨g',cap',cur,h1,_,h2,h3,h4,h5,h6⟩
  ·cases h1
  ·simp only[Value.slice.injEq,Option.some.injEq,Addr.mk.injEq,and_true,true_and]at h1;obtain⟨rfl,rfl⟩:=h1;exact⟨cur,h2,h3,h4,h5,h6⟩
 have hH:Sort.Holds encS w g 0 ds.toArray:=by
  intro j hj;have hj':j<L:=by simpa[hlen]using hj
  refine⟨?_,Lib.frozen_of_heap hg _⟩;have:=hr.cellAt j (by omega);rw[Nat.zero_add,this];simp[hlen,hj']
 obtain⟨i0,hi0,hz0,hz1,hz2⟩:=info_parts QC;have hD:=AnyE.slices_Delete Tryz.Xk3 encS (fun _=>rfl) (none,0,0) Tryz.zeroValue28 i0 hi0 hz1 g 0 cap 0 n ds.toArray w hH (by simpa[hlen]using hc1) (by unfold maxLen at hc2;omega) (Nat.zero_le _) (by simpa[hlen]using hn);have e1:ds.toArray.size=L:=by simpa using hlen
 rw[e1]at hD;refine hD.mono ?_;rintro e w' ⟨rfl,k,rfl⟩;generalize hd:(ds.toArray.toList.take 0++ds.toArray.toList.drop n++List.replicate (n-0) (none,0,0)).toArray=d;have hdl:d.size=L:=by rw[← hd];simp;omega
 have hget:∀j,j<L-n→d[j]! =(ds.drop n).getD j (none,0,0):=by
  intro j hj;rw[← hd];simp[List.getElem?_append,List.getD,show j<ds.length-n by omega]
 have hg2:(Sort.putRow encS (Sort.ahead w k) g 0 d).heap[g]?=some (.cells (Sort.putCells encS 0 d cur) 28 (0,0)):=by
  simp[Sort.putRow,Sort.mapBlock,Array.getElem?_modify,Sort.ahead,hg,Sort.onCells]
 have hother:∀j,j≠g→(Sort.putRow encS (Sort.ahead w k) g 0 d).heap[j]?=w.heap[j]?:=by
  intro j hj;simp[Sort.putRow,Sort.mapBlock,Array.getElem?_modify,Sort.ahead,show ¬g=j from fun e=>hj e.symm]
 refine⟨rfl,⟨by simp[hlen],.inr ⟨g,cap,_,rfl,Nat.zero_le _,hg2,by omega,hc2,by simp[Sort.putCells,hc3],?_⟩⟩,⟨rfl,rfl,rfl,by simp[Sort.ahead],fun j _ hj=>hother j hj⟩⟩;apply List.ext_getElem?
 intro j;rw[Nat.mul_one,List.getElem?_take];by_cases hj:j<L-n
 ·rw[if_pos hj];have h1:j<cur.size:=by omega
  have h2:j<d.size:=by omega
  have h3:n+j<ds.length:=by omega
  have h4:=hget j hj
  have h5:d[j]=ds[n+j]:=by
   have e1:d[j]! =d[j]:=getElem!_pos d j h2;rw[← e1,h4];simp[List.getD,h3]
  simp[Sort.putCells,h1,h2,h5,h3,List.getElem?_drop]
 ·rw[if_neg hj];symm
  rw[List.getElem?_eq_none_iff];simp[hlen];omega
section
variable {w W:World}{own:Nat→Nat}{i b:Nat}{c:Cfg}{s:St}{cl:Bool}{ch:Nat}{q cm o ev:Value}{qe ce oe:List Value}
theorem Lst.slices {w:World}{own:Nat→Nat}{t:Nat}{v:Value}{ents:List Value}{l:List Msg}(h:Lst w own t v ents l):∀x∈ents,∃p n c,x=.slice p n c:=by
 intro x hx;obtain⟨j,hj,rfl⟩:=List.getElem_of_mem hx;have hl:=h.len;have hb:=h.each j _ _ (List.getElem?_eq_getElem hj) (List.getElem?_eq_getElem (by omega));obtain⟨p,cap,e⟩:=Yk hb.1;exact⟨p,_,cap,e⟩
theorem SAt.dropped {g cap:Nat}(h:SAt w own i b c s cl ch (.slice (some ⟨g,0,none⟩) s.queue.length cap) cm o ev qe ce oe){n:Nat}{w2:World}
  (hk:Xb (· =g) w w2) (hr:w2.ownsRow 0 28 1 (.slice (some ⟨g,0,none⟩) (s.queue.length-n) cap) (s.queue.length-n) (qe.drop n)):
  HeadAt w2 b c s ch (.slice (some ⟨g,0,none⟩) s.queue.length cap) cm o ev∧Upd i own own w w2∧
  ∀(w3:World) (s':St),Xb (· =b) w2 w3→HeadAt w3 b c s' ch (.slice (some ⟨g,0,none⟩) (s.queue.length-n) cap) cm o ev→s'.queue=s.queue.drop n→s'.came=s.came→s'.out=s.out→s'.events=s.events→s'.fit c→
   SAt w3 own i b c s' cl ch (.slice (some ⟨g,0,none⟩) (s.queue.length-n) cap) cm o ev (qe.drop n) ce oe∧Upd i own own w w3:=by
 have hgo:own g=tg i 1:=h.lq.rown g rfl;have hbg:b≠g:=fun e=>by rw[← e,h.ownb]at hgo;exact Xz (by omega) (by omega) (.inr (by omega)) hgo
 have hcg:ch≠g:=fun e=>by rw[← e,h.ownc]at hgo;exact Xz (by omega) (by omega) (.inr (by omega)) hgo
 have hu:Upd i own own w w2:=⟨hk.mono (fun k hk=>⟨1,by omega,by rw[hk];exact hgo⟩),fun _ _=>rfl⟩;refine⟨by unfold HeadAt;rw[hk.block b h.lt hbg];exact h.head,hu,?_⟩;intro w3 s' hk3 hh e1 e2 e3 e4 hfit;have hK:Xb (fun k=>k=g∨k=b) w w3:=(hk.mono (fun _ h=>.inl h)).trans (hk3.mono (fun _ h=>.inr h))
 have hne:∀p,p<5→p≠0→p≠1→∀k,(k=g∨k=b)→own k≠tg i p:=by
  intro p hp h0 h1 k hk;rcases hk with hk|hk
  ·rw[hk,hgo];exact Xz (by omega) hp (.inr (by omega))
  ·rw[hk,h.ownb];exact Xz (by omega) hp (.inr (by omega))
 have hcb:ch≠b:=fun e=>by have:=h.head;rw[← e,h.chan]at this;simp at this
 have hlc:=(Array.getElem?_eq_some_iff.1 h.chan).1;refine⟨⟨hh,h.ownb,?_,h.ownc,⟨?_,fun k hk=> ?_,?_,h.lq.apart.drop n⟩,by rw[e2];exact h.lcm.keeps hK (hne 2 (by omega) (by omega) (by omega)) (fun _ _=>rfl),by rw[e3];exact h.lo.keeps hK (hne 3 (by omega) (by omega) (by omega)) (fun _ _=>rfl),?_,h.owne,?_,h.XC,fun k hs=>h.Xp k (Nat.le_trans hK.size hs),h.cok,hfit⟩,hK.mono (fun k hk=>by rcases hk with hk|hk;exact⟨1,by omega,by rw[hk];exact hgo⟩;exact⟨0,by omega,by rw[hk];exact h.ownb⟩),fun _ _=>rfl⟩
 ·rw[hK.block ch hlc (fun hx=>by rcases hx with hx|hx;exact hcg hx;exact hcb hx)];exact h.chan
 ·rw[e1,List.length_drop];exact Xc hr hk3 (fun k hk e=>by simp[Value.ownBlock]at hk;omega)
 ·simp[Value.ownBlock]at hk;rw[← hk];exact hgo
 ·intro j x m h1 h2;rw[List.getElem?_drop]at h1;rw[e1,List.getElem?_drop]at h2;have hx:=h.lq.each (n+j) x m h1 h2;refine⟨Xc hx.1 hK (fun k hk hX=> ?_),hx.2⟩;rcases hX with hX|hX
  ·obtain ⟨c1,e1⟩:=Xd h.lq.row (k:=g) rfl;obtain⟨c2,e2⟩:=Xd hx.1 hk;rw[hX,e1]at e2;simp at e2
  ·have:=hx.2 k hk;rw[hX,h.ownb]at this;exact Xz (by omega) (by omega) (.inr (by omega)) this
 ·rw[e4];exact Xc h.lev hK (fun k hk hX=>hne 4 (by omega) (by omega) (by omega) k hX (h.owne k hk))
 ·refine h.ctl.keeps hK h.pos (fun hx=> ?_);rcases hx with hx|hx
  ·rw[← hx,h.XC]at hgo;exact Xq _ _ hgo.symm
  ·have:=h.ownb;rw[← hx,h.XC]at this;exact Xq _ _ this.symm
theorem QO (h:SAt w own i b c s cl ch q cm o ev qe ce oe)(nr:Nat)(hnr:nr<c.m)(hle:ahead c s nr≤s.queue.length):
  Calls Tryz.prog 168 #[.pointer (some ⟨b,0,none⟩),.int .i64 nr] w fun e w'=>Did i b c (Xe c nr s) cl own w e w':=by
 have k1:=Qx h nr hnr;have hlt:=h.lt;by_cases h0:ahead c s nr=0
 ·have HP:Hid (Xe c nr s=s):=hide (by unfold Xe;rw[if_pos h0]);rw[h0]at k1;have H:=hide h;clear h h0;go_enter Tryz.func168,Tryz.ntmps168
  go_wp2_with fail
  refine k1.mono ?_;rintro e w1 ⟨rfl,n1,rfl⟩;clear k1;go_wp2
  refine bodyPost_ret (results_none rfl _ _ _) rfl ?_;rw[Xa HP];exact(Xa H).idleB (below_drewN (Below.refl _ w) _)
 ·obtain ⟨g,cap,p,pc,rfl,_,_,hq1,hq2⟩:=h.lq.at 0 (by omega);have c8:=h.Xas;have c12:=h.c_q;have fz:=h.fz;have hq20:=h.sok.q20;have HP:Hid (Xe c nr s={s with vs:=if ahead c s s.vs<ahead c s nr then nr else s.vs,queue:=s.queue.drop (ahead c s nr),va:=nr,timer:=if s.Xh then s.timer else 0}):=hide (by unfold Xe;rw[if_neg h0]);have k2:=fun n=>Qx (h.drewN n) s.vs h.sok.vs
  generalize hn:ahead c s nr=n at*;have hz:((n:Int)==0)=false:=by simp;omega
  generalize hx:ahead c s s.vs=x at*;by_cases hxn:x<n
  ·have HP2:Hid (Xe c nr s={s with vs:=nr,queue:=s.queue.drop n,va:=nr,timer:=if s.Xh then s.timer else 0}):=hide (by rw[Xa HP,if_pos hxn]);have H:=hide h;have HQ2:=hide hq2;clear h hq2 HP;go_enter Tryz.func168,Tryz.ntmps168
   go_wp2_with fail
   refine k1.mono ?_;rintro e w1 ⟨rfl,n1,rfl⟩;clear k1;go_wp2_with fail
   refine(k2 _).mono ?_;rintro e w1 ⟨rfl,n2,rfl⟩;clear k2;have h0':=((Xa H).drewN n1).drewN n2;have h1:=h0'.wrote (s':={s with vs:=nr}) ((Xb.refl _ _).setB 8 (.int .i64 (nr:Nat))) (h0'.hd.vs nr) rfl rfl rfl rfl ⟨h0'.sok.state,hnr,h0'.sok.va,h0'.sok.vr,h0'.sok.vm,h0'.sok.q20,h0'.sok.q32,h0'.sok.timer,h0'.sok.tries,h0'.sok.came⟩;have u1:Upd i own own w _:=Upd.of (below_drewN (below_drewN (Below.refl _ w) n1) n2) (h0'.upd ((Xb.refl _ _).setB 8 (.int .i64 (nr:Nat))));clear h0';rw[World.drewN_drewN]at h1 u1;have K3:=hide (XdG g n cap s.queue.length qe _ h1.lq.row h1.lq.slices hle);have H1:=hide h1;have U1:=hide u1;clear h1 u1;go_wp2_with fail
   refine(Xa K3).mono ?_;rintro e w2 ⟨rfl,hr,hk⟩;obtain⟨hh2,u2,fin⟩:=(Xa H1).dropped hk hr;have d12:w2.cell? ⟨b,12,none⟩=some (.slice (some ⟨g,0,none⟩) s.queue.length cap):=by rw[Lib.cell_of_heap hh2];rfl
   have d9:w2.cell? ⟨b,9,none⟩=some (.int .i64 s.va):=by rw[Lib.cell_of_heap hh2];rfl
   have d15:w2.cell? ⟨b,15,none⟩=some (.bool s.Xh):=by rw[Lib.cell_of_heap hh2];rfl
   have d13:w2.cell? ⟨b,13,none⟩=some (.int .i64 s.timer):=by rw[Lib.cell_of_heap hh2];rfl
   have fz2:∀j,w2.frozen? ⟨b,j,none⟩=false:=fun j=>Lib.frozen_of_heap hh2 j
   have hsok:=(Xa H1).sok;have hq:∀x∈s.queue.drop n,x.length≤32:=fun x hx=>hsok.q32 x (List.mem_of_mem_drop hx)
   have hql:(s.queue.drop n).length≤20:=by rw[List.length_drop];omega
   have HH:=hide hh2;have HFIN:=hide fin;have HSOK:=hide hsok;clear K3 H1 hh2 fin u2 hr hk H HQ2 c8 c12 fz hsok;by_cases hp:s.Xh=true
   ·rw[hp]at d15;have HP3:Hid (Xe c nr s={s with vs:=nr,queue:=s.queue.drop n,va:=nr}):=hide (by rw[Xa HP2,if_pos hp]);clear hp HP2;go_wp2
    go_end0
    rw[Xa HP3];have hf:=Xa HFIN _ {s with vs:=nr,queue:=s.queue.drop n,va:=nr} (((Xb.refl _ w2).setB 12 (.slice (some ⟨g,0,none⟩) (s.queue.length-n) cap)).setB 9 (.int .i64 (nr:Nat))) ((((Xa HH).lq _).va nr).as _ rfl) rfl rfl rfl rfl ⟨(Xa HSOK).state,(Xa HSOK).vs,hnr,(Xa HSOK).vr,(Xa HSOK).vm,hql,hq,(Xa HSOK).timer,(Xa HSOK).tries,(Xa HSOK).came⟩;exact⟨rfl,own,⟨_,_,_,_,_,_,_,_,hf.1⟩,(Xa U1).trans hf.2⟩
   ·have hp':s.Xh=false:=eq_false_of_ne_true hp;have HP3:Hid (Xe c nr s={s with vs:=nr,queue:=s.queue.drop n,va:=nr,timer:=0}):=hide (by rw[Xa HP2,if_neg hp]);rw[hp']at d15;clear hp hp' HP2;go_wp2
    go_end0
    rw[Xa HP3];have hf:=Xa HFIN _ {s with vs:=nr,queue:=s.queue.drop n,va:=nr,timer:=0} ((((Xb.refl _ w2).setB 12 (.slice (some ⟨g,0,none⟩) (s.queue.length-n) cap)).setB 9 (.int .i64 (nr:Nat))).setB 13 (.int .i64 (0:Nat))) (((((Xa HH).lq _).va nr).timer 0).as _ rfl) rfl rfl rfl rfl ⟨(Xa HSOK).state,(Xa HSOK).vs,hnr,(Xa HSOK).vr,(Xa HSOK).vm,hql,hq,Nat.zero_le _,(Xa HSOK).tries,(Xa HSOK).came⟩;exact⟨rfl,own,⟨_,_,_,_,_,_,_,_,hf.1⟩,(Xa U1).trans hf.2⟩
  ·have HP2:Hid (Xe c nr s={s with vs:=s.vs,queue:=s.queue.drop n,va:=nr,timer:=if s.Xh then s.timer else 0}):=hide (by rw[Xa HP,if_neg hxn]);have H:=hide h;have HQ2:=hide hq2;clear h hq2 HP;go_enter Tryz.func168,Tryz.ntmps168
   go_wp2_with fail
   refine k1.mono ?_;rintro e w1 ⟨rfl,n1,rfl⟩;clear k1;go_wp2_with fail
   refine(k2 _).mono ?_;rintro e w1 ⟨rfl,n2,rfl⟩;clear k2;have h1:=((Xa H).drewN n1).drewN n2;have u1:Upd i own own w ((w.drewN n1).drewN n2):=Upd.of (below_drewN (below_drewN (Below.refl _ w) n1) n2) (Upd.refl _ _ _);rw[World.drewN_drewN]at h1 u1;have K3:=hide (XdG g n cap s.queue.length qe _ h1.lq.row h1.lq.slices hle);have H1:=hide h1;have U1:=hide u1;clear h1 u1;go_wp2_with fail
   refine(Xa K3).mono ?_;rintro e w2 ⟨rfl,hr,hk⟩;obtain⟨hh2,u2,fin⟩:=(Xa H1).dropped hk hr;have d12:w2.cell? ⟨b,12,none⟩=some (.slice (some ⟨g,0,none⟩) s.queue.length cap):=by rw[Lib.cell_of_heap hh2];rfl
   have d9:w2.cell? ⟨b,9,none⟩=some (.int .i64 s.va):=by rw[Lib.cell_of_heap hh2];rfl
   have d15:w2.cell? ⟨b,15,none⟩=some (.bool s.Xh):=by rw[Lib.cell_of_heap hh2];rfl
   have d13:w2.cell? ⟨b,13,none⟩=some (.int .i64 s.timer):=by rw[Lib.cell_of_heap hh2];rfl
   have fz2:∀j,w2.frozen? ⟨b,j,none⟩=false:=fun j=>Lib.frozen_of_heap hh2 j
   have hsok:=(Xa H1).sok;have hq:∀x∈s.queue.drop n,x.length≤32:=fun x hx=>hsok.q32 x (List.mem_of_mem_drop hx)
   have hql:(s.queue.drop n).length≤20:=by rw[List.length_drop];omega
   have HH:=hide hh2;have HFIN:=hide fin;have HSOK:=hide hsok;clear K3 H1 hh2 fin u2 hr hk H HQ2 c8 c12 fz hsok;by_cases hp:s.Xh=true
   ·rw[hp]at d15;have HP3:Hid (Xe c nr s={s with vs:=s.vs,queue:=s.queue.drop n,va:=nr}):=hide (by rw[Xa HP2,if_pos hp]);clear hp HP2;go_wp2
    go_end0
    rw[Xa HP3];have hf:=Xa HFIN _ {s with vs:=s.vs,queue:=s.queue.drop n,va:=nr} (((Xb.refl _ w2).setB 12 (.slice (some ⟨g,0,none⟩) (s.queue.length-n) cap)).setB 9 (.int .i64 (nr:Nat))) ((((Xa HH).lq _).va nr).as _ rfl) rfl rfl rfl rfl ⟨(Xa HSOK).state,(Xa HSOK).vs,hnr,(Xa HSOK).vr,(Xa HSOK).vm,hql,hq,(Xa HSOK).timer,(Xa HSOK).tries,(Xa HSOK).came⟩;exact⟨rfl,own,⟨_,_,_,_,_,_,_,_,hf.1⟩,(Xa U1).trans hf.2⟩
   ·have hp':s.Xh=false:=eq_false_of_ne_true hp;have HP3:Hid (Xe c nr s={s with vs:=s.vs,queue:=s.queue.drop n,va:=nr,timer:=0}):=hide (by rw[Xa HP2,if_neg hp]);rw[hp']at d15;clear hp hp' HP2;go_wp2
    go_end0
    rw[Xa HP3];have hf:=Xa HFIN _ {s with vs:=s.vs,queue:=s.queue.drop n,va:=nr,timer:=0} ((((Xb.refl _ w2).setB 12 (.slice (some ⟨g,0,none⟩) (s.queue.length-n) cap)).setB 9 (.int .i64 (nr:Nat))).setB 13 (.int .i64 (0:Nat))) (((((Xa HH).lq _).va nr).timer 0).as _ rfl) rfl rfl rfl rfl ⟨(Xa HSOK).state,(Xa HSOK).vs,hnr,(Xa HSOK).vr,(Xa HSOK).vm,hql,hq,Nat.zero_le _,(Xa HSOK).tries,(Xa HSOK).came⟩;exact⟨rfl,own,⟨_,_,_,_,_,_,_,_,hf.1⟩,(Xa U1).trans hf.2⟩
end
end Go.Proofs.YtkalonhalhdlaaaGreatDoor
namespace Go.Proofs.YtkalonhalhdlaaaGreatDoor
open Go.Conc Go.RowKit
theorem Xfw (b ch cap s r:Nat)(tm:Bool)(w:World)(c6:w.cell? ⟨b,6,none⟩=some (.chan (some ch)))(hc:w.heap[ch]?=some (.chan cap #[] false s r tm)):
  Calls Tryz.prog 88 #[.pointer (some ⟨b,0,none⟩)] w fun e w'=>e=.returned (.bool false)∧w'=w:=by
 refine calls_of_loneTo fun cs=> ?_
 have e:Frame.enter Tryz.prog 88 #[.pointer (some ⟨b,0,none⟩)] .normal=(base 88).at ⟨#[.pointer (some ⟨b,0,none⟩),undef,undef,undef,undef,undef,undef,undef,undef,undef],[]⟩ [.code (Tryz.f88.body.getD .skip)]:=by
  simp[Frame.enter,Frame.at,Tryz.func88,base,Tryz.f88]
 rw[e];refine LoneTo.goes (n:=60) ?_;simp only[Tryz.f88,Option.getD_some];s_c stepG_seq
 s_reg
 s_op
 s_c stepG_region_end
 s_c stepG_seq
 s_reg
 s_op
 s_op
 s_op
 s_op
 s_c stepG_region_end
 s_c stepG_seq
 s_reg
 s_stop
 refine LoneTo.step (step_lone_select_default (c:=ch) (z:=.agg #[]) (cap:=cap) (s:=s) (r:=r) (tm:=tm) (stepG_comm (cases:= #[rcase ch (.agg #[])]) (blocking:=false) (shape:=.select) (w':=w) rfl rfl (by decide) (by simp[go_sem,execOp,rcase,Act.eval])) hc) ?_;rw[Frame.finish_at];walk_nrm
 refine LoneTo.goes (n:=40) ?_;s_op
 s_op
 s_c stepG_region_end
 s_c stepG_block
 s_cond false
 s_c stepG_seq
 s_reg
 s_op
 s_c stepG_region_end
 s_c stepG_ret'
 s_stop
 exact LoneTo.done ⟨.returned (.bool false),_,rfl,⟨rfl,rfl⟩,rfl,rfl,rfl,rfl,_,Tryz.func88,by simp[results,Tryz.f88,Frame.at]⟩
theorem Xfx (b ch cap s r:Nat)(tm:Bool)(w:World)(c6:w.cell? ⟨b,6,none⟩=some (.chan (some ch)))(hc:w.heap[ch]?=some (.chan cap #[] true s r tm)):
  Calls Tryz.prog 88 #[.pointer (some ⟨b,0,none⟩)] w fun e w'=>e=.returned (.bool true)∧w'=w:=by
 refine calls_of_loneTo fun cs=> ?_
 have e:Frame.enter Tryz.prog 88 #[.pointer (some ⟨b,0,none⟩)] .normal=(base 88).at ⟨#[.pointer (some ⟨b,0,none⟩),undef,undef,undef,undef,undef,undef,undef,undef,undef],[]⟩ [.code (Tryz.f88.body.getD .skip)]:=by
  simp[Frame.enter,Frame.at,Tryz.func88,base,Tryz.f88]
 rw[e];refine LoneTo.goes (n:=60) ?_;simp only[Tryz.f88,Option.getD_some];s_c stepG_seq
 s_reg
 s_op
 s_c stepG_region_end
 s_c stepG_seq
 s_reg
 s_op
 s_op
 s_op
 s_op
 s_c stepG_region_end
 s_c stepG_seq
 s_reg
 s_stop
 refine LoneTo.step (step_lone_select_recv_shut (c:=ch) (z:=.agg #[]) (cap:=cap) (s:=s) (r:=r) (tm:=tm) (stepG_comm (cases:= #[rcase ch (.agg #[])]) (blocking:=false) (shape:=.select) (w':=w) rfl rfl (by decide) (by simp[go_sem,execOp,rcase,Act.eval])) hc) ?_;rw[Frame.finish_at];walk_nrm
 refine LoneTo.goes (n:=40) ?_;s_op
 s_op
 s_c stepG_region_end
 s_c stepG_block
 s_cond true
 s_c stepG_seq
 s_reg
 s_op
 s_c stepG_region_end
 s_c stepG_ret'
 s_stop
 exact LoneTo.done ⟨.returned (.bool true),_,rfl,⟨rfl,rfl⟩,rfl,rfl,rfl,rfl,_,Tryz.func88,by simp[results,Tryz.f88,Frame.at]⟩
theorem YE {w:World}{own:Nat→Nat}{i b:Nat}{c:Cfg}{s:St}{cl:Bool}{ch:Nat}{q cm o ev:Value}{qe ce oe:List Value}(h:SAt w own i b c s cl ch q cm o ev qe ce oe):
  Calls Tryz.prog 88 #[.pointer (some ⟨b,0,none⟩)] w fun e w'=>e=.returned (.bool cl)∧w'=w:=by
 cases cl with
 |false=>exact Xfw b ch 0 0 0 false w h.Xmx h.chan
 |true=>exact Xfx b ch 0 0 0 false w h.Xmx h.chan
end Go.Proofs.YtkalonhalhdlaaaGreatDoor
namespace Go.Proofs.YtkalonhalhdlaaaGreatDoor
open Go.RowKit
section
variable {w W:World}{own:Nat→Nat}{i b:Nat}{c:Cfg}{s:St}{cl:Bool}{ch:Nat}{q cm o ev:Value}{qe ce oe:List Value}
theorem Xc9 {w w1:World}{x:Obj}(hb:Below (w.alloc x).heap.size (w.alloc x) w1):w1.heap[w.heap.size]?=some x:=by
 rw[hb.block w.heap.size (by rw[Xk];omega)];exact Xg w x
theorem Xe4 (h:SAt w own i b c s cl ch q cm o ev qe ce oe)(f:Fr)(fq:Option Addr)(fc:Nat):
  Calls Tryz.prog 120 #[.pointer (some ⟨b,0,none⟩),frV f fq fc] w fun e w'=>e=.returned (.bool (Zf c f))∧Below w.heap.size w w':=by
 have hk:=fun V (hV:Below w.heap.size w V)=>ZH (h.later hV) f fq fc
 have hlt:=h.lt;have hdef:Zf c f=if f.k=1∨f.k=5∨f.k=6 then X8 c f else if f.k=7∨f.k=8∨f.k=9 then !X8 c f else true:=rfl
 generalize X8 c f=x at hk hdef;have HK:=hide hk;have HD:=hide hdef;clear h hk hdef;obtain⟨fa,fk,fp,fns,fnr,info⟩:=f;unfold frV at HK⊢;simp only at HK HD⊢;by_cases h1:fk=1∨fk=5∨fk=6
 ·have HD2:=hide ((Xa HD).trans (if_pos h1));clear HD;rcases h1 with rfl|rfl|rfl
  all_goals
   go_enter Tryz.func120,Tryz.ntmps120
   go_wp2_with fail
   refine(Xa HK _ ?_).mono ?_
   ·exact (Below.refl _ w).alloc (Nat.le_refl _) _
   rintro e w1 ⟨rfl,hb⟩;have HB:=hide (((Below.refl _ w).alloc (Nat.le_refl _) _).trans (hb.mono (by simp)));clear hb HK;go_wp2
   go_ret
   exact⟨Xr (Xa HD2).symm,Xa HB⟩
 ·have HD1:=hide ((Xa HD).trans (if_neg h1));have n1:(fk==1)=false:=by simp;omega
  have n5:(fk==5)=false:=by simp;omega
  have n6:(fk==6)=false:=by simp;omega
  clear HD;by_cases h2:fk=7∨fk=8∨fk=9
  ·have HD2:=hide ((Xa HD1).trans (if_pos h2));clear HD1 h1 n1 n5 n6;rcases h2 with rfl|rfl|rfl
   all_goals
    go_enter Tryz.func120,Tryz.ntmps120
    go_wp2_with fail
    refine(Xa HK _ ?_).mono ?_
    ·exact (Below.refl _ w).alloc (Nat.le_refl _) _
    rintro e w1 ⟨rfl,hb⟩;have HB:=hide (((Below.refl _ w).alloc (Nat.le_refl _) _).trans (hb.mono (by simp)));clear hb HK;go_wp2
    go_ret
    exact⟨Xr (Xa HD2).symm,Xa HB⟩
  ·have HD2:=hide ((Xa HD1).trans (if_neg h2));have n7:(fk==7)=false:=by simp;omega
   have n8:(fk==8)=false:=by simp;omega
   have n9:(fk==9)=false:=by simp;omega
   clear HD1 h1 h2 HK;go_enter Tryz.func120,Tryz.ntmps120
   go_wp2
   go_ret
   exact⟨Xr (Xa HD2).symm,(Below.refl _ w).alloc (Nat.le_refl _) _⟩
theorem Xgu (h:SAt w own i b c s cl ch q cm o ev qe ce oe)(f:Fr)(fq:Option Addr)(fc:Nat)(hl:s.out.length≤2199023255552)(hl2:s.events.length≤2199023255552):
  Calls Tryz.prog 143 #[.pointer (some ⟨b,0,none⟩),frV f fq fc] w fun e w'=>Did i b c (Zw c f s) cl own w e w':=by
 have hlt:=h.lt;have k1:=fun V (hV:Below w.heap.size w V)=>Xdw (h.later hV) 1 f fq fc hl hl2
 have k2:=fun V (hV:Below w.heap.size w V)=>Qk (h.later hV) 8 f fq fc hl
 have k3:=fun V (hV:Below w.heap.size w V)=>ZH (h.later hV) f fq fc
 have hdef:Zw c f s=if f.k=5 then accept c f.p 1 s else if f.k=6 then Yj c 8 f.p s else if f.k=1∨f.k=2∨f.k=3∨f.k=4 then(if X8 c f&&f.p then Yj c 8 f.p s else s)else s:=rfl
 generalize X8 c f=x at k3 hdef;have K1:=hide k1;have K2:=hide k2;have K3:=hide k3;have HD:=hide hdef;have HI:=hide h;clear h k1 k2 k3 hdef;obtain⟨fa,fk,fp,fns,fnr,info⟩:=f;unfold frV at K1 K2 K3⊢;simp only at K1 K2 K3 HD⊢;by_cases h5:fk=5
 ·have HD2:=hide ((Xa HD).trans (if_pos h5));clear HD;subst h5;go_enter Tryz.func143,Tryz.ntmps143
  go_wp2_with fail
  refine(Xa K1 _ ?_).mono ?_
  ·exact (Below.refl _ w).alloc (Nat.le_refl _) _
  rintro e w1 ⟨rfl,own2,h3,u3⟩;have HR:=hide (And.intro h3 (Upd.of (w:=w) ((Below.refl _ w).alloc (Nat.le_refl _) _) u3));clear h3 u3 K1;go_wp2
  first|go_end0|refine bodyPost_ret (results_none rfl _ _ _) rfl ?_
  rw[Xa HD2];exact⟨rfl,own2,(Xa HR).1,(Xa HR).2⟩
 ·have HD1:=hide ((Xa HD).trans (if_neg h5));clear HD;by_cases h6:fk=6
  ·have HD2:=hide ((Xa HD1).trans (if_pos h6));clear HD1;subst h6;go_enter Tryz.func143,Tryz.ntmps143
   go_wp2_with fail
   refine(Xa K2 _ ?_).mono ?_
   ·exact (Below.refl _ w).alloc (Nat.le_refl _) _
   rintro e w1 ⟨rfl,own2,h3,u3⟩;have HR:=hide (And.intro h3 (Upd.of (w:=w) ((Below.refl _ w).alloc (Nat.le_refl _) _) u3));clear h3 u3 K2;go_wp2
   first|go_end0|refine bodyPost_ret (results_none rfl _ _ _) rfl ?_
   rw[Xa HD2];exact⟨rfl,own2,(Xa HR).1,(Xa HR).2⟩
  ·have HD3:=hide ((Xa HD1).trans (if_neg h6));clear HD1;by_cases h1:fk=1∨fk=2∨fk=3∨fk=4
   ·have HD4:=hide ((Xa HD3).trans (if_pos h1));clear HD3 K1 h5 h6;cases x with
    |false=>
     have HD2:=hide ((Xa HD4).trans (if_neg (by simp)));clear HD4;rcases h1 with rfl|rfl|rfl|rfl
     all_goals
      go_enter Tryz.func143,Tryz.ntmps143
      go_wp2_with fail
      refine(Xa K3 _ ((Below.refl _ w).alloc (Nat.le_refl _) _)).mono ?_;rintro e w1 ⟨rfl,hb⟩;obtain⟨y0,y1,y2,y3,y4,y5⟩:=Xt (Xc9 hb);have HB:=hide (((Below.refl _ w).alloc (Nat.le_refl _) _).trans (hb.mono (by simp)));clear hb K3;go_wp2
      first|go_end0|refine bodyPost_ret (results_none rfl _ _ _) rfl ?_
      rw[Xa HD2];exact(Xa HI).idleB (Xa HB)
    |true=>
     cases fp with
     |false=>
      have HD2:=hide ((Xa HD4).trans (if_neg (by simp)));clear HD4;rcases h1 with rfl|rfl|rfl|rfl
      all_goals
       go_enter Tryz.func143,Tryz.ntmps143
       go_wp2_with fail
       refine(Xa K3 _ ((Below.refl _ w).alloc (Nat.le_refl _) _)).mono ?_;rintro e w1 ⟨rfl,hb⟩;obtain⟨y0,y1,y2,y3,y4,y5⟩:=Xt (Xc9 hb);have HB:=hide (((Below.refl _ w).alloc (Nat.le_refl _) _).trans (hb.mono (by simp)));clear hb K3;go_wp2
       first|go_end0|refine bodyPost_ret (results_none rfl _ _ _) rfl ?_
       rw[Xa HD2];exact(Xa HI).idleB (Xa HB)
     |true=>
      have HD2:=hide ((Xa HD4).trans (if_pos (by simp)));clear HD4;rcases h1 with rfl|rfl|rfl|rfl
      all_goals
       go_enter Tryz.func143,Tryz.ntmps143
       go_wp2_with fail
       refine(Xa K3 _ ((Below.refl _ w).alloc (Nat.le_refl _) _)).mono ?_;rintro e w1 ⟨rfl,hb⟩;obtain⟨y0,y1,y2,y3,y4,y5⟩:=Xt (Xc9 hb);have HB:=hide (((Below.refl _ w).alloc (Nat.le_refl _) _).trans (hb.mono (by simp)));clear hb K3;go_wp2_with fail
       refine(Xa K2 _ (Xa HB)).mono ?_;rintro e w2 ⟨rfl,own2,h3,u3⟩;have HR:=hide (And.intro h3 (Upd.of (w:=w) (Xa HB) u3));clear h3 u3 K2;go_wp2
       first|go_end0|refine bodyPost_ret (results_none rfl _ _ _) rfl ?_
       rw[Xa HD2];exact⟨rfl,own2,(Xa HR).1,(Xa HR).2⟩
   ·have HD2:=hide ((Xa HD3).trans (if_neg h1));have n1:(fk==1)=false:=by simp;omega
    have n2:(fk==2)=false:=by simp;omega
    have n3:(fk==3)=false:=by simp;omega
    have n4:(fk==4)=false:=by simp;omega
    have n5:(fk==5)=false:=by simp;omega
    have n6:(fk==6)=false:=by simp;omega
    clear HD3 K1 K2 K3 h1 h5 h6;go_enter Tryz.func143,Tryz.ntmps143
    go_wp2
    first|go_end0|refine bodyPost_ret (results_none rfl _ _ _) rfl ?_
    rw[Xa HD2];exact(Xa HI).idleB ((Below.refl _ w).alloc (Nat.le_refl _) _)
end
section
variable {w W:World}{own:Nat→Nat}{i b:Nat}{c:Cfg}{s:St}{cl:Bool}{ch:Nat}{q cm o ev:Value}{qe ce oe:List Value}
theorem XdN (h:SAt w own i b c s cl ch q cm o ev qe ce oe)(f:Fr)(fq:Option Addr)(fc:Nat)(hl:s.out.length≤2199023255552)(hl2:s.events.length≤2199023255552):
  Calls Tryz.prog 144 #[.pointer (some ⟨b,0,none⟩),frV f fq fc] w fun e w'=>Did i b c (YM c f s) cl own w e w':=by
 have hlt:=h.lt;have k1:=fun V (hV:Below w.heap.size w V)=>Qk (h.later hV) 7 f fq fc hl
 have k2:=fun V (hV:Below w.heap.size w V)=>Qk (h.later hV) 8 f fq fc hl
 have k3:=fun V (hV:Below w.heap.size w V)=>XdE (h.later hV) 1 hl2
 have k4:=fun V (hV:Below w.heap.size w V)=>JS (h.later hV) 4 hl2
 have hdef:YM c f s=if f.k=5 then Yj c 7 f.p s else if f.k=6 then Yj c 8 f.p s else if f.k=7∧f.p=true then Xap 1 s else if f.k=8∧f.p=true then Zi 4 s else s:=rfl
 have K1:=hide k1;have K2:=hide k2;have K3:=hide k3;have K4:=hide k4;have HD:=hide hdef;have HI:=hide h;clear h k1 k2 k3 k4 hdef;obtain⟨fa,fk,fp,fns,fnr,info⟩:=f;unfold frV at K1 K2⊢;simp only at K1 K2 HD⊢;by_cases h5:fk=5
 ·have HD2:=hide ((Xa HD).trans (if_pos h5));clear HD;subst h5;go_enter Tryz.func144,Tryz.ntmps144
  go_wp2_with fail
  refine(Xa K1 _ ?_).mono ?_
  ·exact (Below.refl _ w).alloc (Nat.le_refl _) _
  rintro e w1 ⟨rfl,own2,h3,u3⟩;have HR:=hide (And.intro h3 (Upd.of (w:=w) ((Below.refl _ w).alloc (Nat.le_refl _) _) u3));clear h3 u3 K1;go_wp2
  first|go_end0|refine bodyPost_ret (results_none rfl _ _ _) rfl ?_
  rw[Xa HD2];exact⟨rfl,own2,(Xa HR).1,(Xa HR).2⟩
 ·have HD1:=hide ((Xa HD).trans (if_neg h5));clear HD;by_cases h6:fk=6
  ·have HD2:=hide ((Xa HD1).trans (if_pos h6));clear HD1;subst h6;go_enter Tryz.func144,Tryz.ntmps144
   go_wp2_with fail
   refine(Xa K2 _ ?_).mono ?_
   ·exact (Below.refl _ w).alloc (Nat.le_refl _) _
   rintro e w1 ⟨rfl,own2,h3,u3⟩;have HR:=hide (And.intro h3 (Upd.of (w:=w) ((Below.refl _ w).alloc (Nat.le_refl _) _) u3));clear h3 u3 K2;go_wp2
   first|go_end0|refine bodyPost_ret (results_none rfl _ _ _) rfl ?_
   rw[Xa HD2];exact⟨rfl,own2,(Xa HR).1,(Xa HR).2⟩
  ·have HD3:=hide ((Xa HD1).trans (if_neg h6));clear HD1;by_cases h7:fk=7
   ·subst h7;cases fp with
    |true=>
     have HD2:=hide ((Xa HD3).trans (if_pos ⟨rfl,rfl⟩));clear HD3;go_enter Tryz.func144,Tryz.ntmps144
     go_wp2_with fail
     refine(Xa K3 _ ?_).mono ?_
     ·exact (Below.refl _ w).alloc (Nat.le_refl _) _
     rintro e w1 ⟨rfl,own2,h3,u3⟩;have HR:=hide (And.intro h3 (Upd.of (w:=w) ((Below.refl _ w).alloc (Nat.le_refl _) _) u3));clear h3 u3 K3;go_wp2
     first|go_end0|refine bodyPost_ret (results_none rfl _ _ _) rfl ?_
     rw[Xa HD2];exact⟨rfl,own2,(Xa HR).1,(Xa HR).2⟩
    |false=>
     have HD2:=hide ((Xa HD3).trans ((if_neg (by simp)).trans (if_neg (by simp))));clear HD3;go_enter Tryz.func144,Tryz.ntmps144
     go_wp2
     first|go_end0|refine bodyPost_ret (results_none rfl _ _ _) rfl ?_
     rw[Xa HD2];exact(Xa HI).idleB ((Below.refl _ w).alloc (Nat.le_refl _) _)
   ·by_cases h8:fk=8
    ·subst h8;cases fp with
     |true=>
      have HD2:=hide ((Xa HD3).trans ((if_neg (by simp)).trans (if_pos ⟨rfl,rfl⟩)));clear HD3;go_enter Tryz.func144,Tryz.ntmps144
      go_wp2_with fail
      refine(Xa K4 _ ?_).mono ?_
      ·exact (Below.refl _ w).alloc (Nat.le_refl _) _
      rintro e w1 ⟨rfl,own2,h3,u3⟩;have HR:=hide (And.intro h3 (Upd.of (w:=w) ((Below.refl _ w).alloc (Nat.le_refl _) _) u3));clear h3 u3 K4;go_wp2
      first|go_end0|refine bodyPost_ret (results_none rfl _ _ _) rfl ?_
      rw[Xa HD2];exact⟨rfl,own2,(Xa HR).1,(Xa HR).2⟩
     |false=>
      have HD2:=hide ((Xa HD3).trans ((if_neg (by simp)).trans (if_neg (by simp))));clear HD3;go_enter Tryz.func144,Tryz.ntmps144
      go_wp2
      first|go_end0|refine bodyPost_ret (results_none rfl _ _ _) rfl ?_
      rw[Xa HD2];exact(Xa HI).idleB ((Below.refl _ w).alloc (Nat.le_refl _) _)
    ·have HD2:=hide ((Xa HD3).trans ((if_neg (fun hh=>h7 hh.1)).trans (if_neg (fun hh=>h8 hh.1))));have n5:(fk==5)=false:=by simp;omega
     have n6:(fk==6)=false:=by simp;omega
     have n7:(fk==7)=false:=by simp;omega
     have n8:(fk==8)=false:=by simp;omega
     clear HD3 h5 h6 h7 h8;go_enter Tryz.func144,Tryz.ntmps144
     go_wp2
     first|go_end0|refine bodyPost_ret (results_none rfl _ _ _) rfl ?_
     rw[Xa HD2];exact(Xa HI).idleB ((Below.refl _ w).alloc (Nat.le_refl _) _)
theorem XdP (h:SAt w own i b c s cl ch q cm o ev qe ce oe)(f:Fr)(fq:Option Addr)(fc:Nat)(hl:s.out.length≤2199023255552)(hl2:s.events.length≤2199023255552):
  Calls Tryz.prog 146 #[.pointer (some ⟨b,0,none⟩),frV f fq fc] w fun e w'=>Did i b c (YN c f s) cl own w e w':=by
 have hlt:=h.lt;have k1:=fun V (hV:Below w.heap.size w V)=>Qk (h.later hV) 8 f fq fc hl
 have k2:=fun V (hV:Below w.heap.size w V)=>Qk (h.later hV) 7 f fq fc hl
 have k3:=fun V (hV:Below w.heap.size w V)=>JS (h.later hV) 3 hl2
 have hdef:YN c f s=if f.k=5 then Yj c 8 f.p s else if f.k=6 then Yj c 7 f.p s else if f.k=7∨f.k=8 then(if f.p then Zi 3 s else s)else s:=rfl
 have K1:=hide k1;have K2:=hide k2;have K3:=hide k3;have HD:=hide hdef;have HI:=hide h;clear h k1 k2 k3 hdef;obtain⟨fa,fk,fp,fns,fnr,info⟩:=f;unfold frV at K1 K2⊢;simp only at K1 K2 HD⊢;by_cases h5:fk=5
 ·have HD2:=hide ((Xa HD).trans (if_pos h5));clear HD;subst h5;go_enter Tryz.func146,Tryz.ntmps146
  go_wp2_with fail
  refine(Xa K1 _ ?_).mono ?_
  ·exact (Below.refl _ w).alloc (Nat.le_refl _) _
  rintro e w1 ⟨rfl,own2,h3,u3⟩;have HR:=hide (And.intro h3 (Upd.of (w:=w) ((Below.refl _ w).alloc (Nat.le_refl _) _) u3));clear h3 u3 K1;go_wp2
  first|go_end0|refine bodyPost_ret (results_none rfl _ _ _) rfl ?_
  rw[Xa HD2];exact⟨rfl,own2,(Xa HR).1,(Xa HR).2⟩
 ·have HD1:=hide ((Xa HD).trans (if_neg h5));clear HD;by_cases h6:fk=6
  ·have HD2:=hide ((Xa HD1).trans (if_pos h6));clear HD1;subst h6;go_enter Tryz.func146,Tryz.ntmps146
   go_wp2_with fail
   refine(Xa K2 _ ?_).mono ?_
   ·exact (Below.refl _ w).alloc (Nat.le_refl _) _
   rintro e w1 ⟨rfl,own2,h3,u3⟩;have HR:=hide (And.intro h3 (Upd.of (w:=w) ((Below.refl _ w).alloc (Nat.le_refl _) _) u3));clear h3 u3 K2;go_wp2
   first|go_end0|refine bodyPost_ret (results_none rfl _ _ _) rfl ?_
   rw[Xa HD2];exact⟨rfl,own2,(Xa HR).1,(Xa HR).2⟩
  ·have HD3:=hide ((Xa HD1).trans (if_neg h6));clear HD1;by_cases h7:fk=7∨fk=8
   ·cases fp with
    |true=>
     have HD2:=hide ((Xa HD3).trans ((if_pos h7).trans (if_pos rfl)));clear HD3;rcases h7 with rfl|rfl
     all_goals
      go_enter Tryz.func146,Tryz.ntmps146
      go_wp2_with fail
      refine(Xa K3 _ ?_).mono ?_
      ·exact (Below.refl _ w).alloc (Nat.le_refl _) _
      rintro e w1 ⟨rfl,own2,h3,u3⟩;have HR:=hide (And.intro h3 (Upd.of (w:=w) ((Below.refl _ w).alloc (Nat.le_refl _) _) u3));clear h3 u3 K3;go_wp2
      first|go_end0|refine bodyPost_ret (results_none rfl _ _ _) rfl ?_
      rw[Xa HD2];exact⟨rfl,own2,(Xa HR).1,(Xa HR).2⟩
    |false=>
     have HD2:=hide ((Xa HD3).trans ((if_pos h7).trans (if_neg (by simp))));clear HD3;rcases h7 with rfl|rfl
     all_goals
      go_enter Tryz.func146,Tryz.ntmps146
      go_wp2
      first|go_end0|refine bodyPost_ret (results_none rfl _ _ _) rfl ?_
      rw[Xa HD2];exact(Xa HI).idleB ((Below.refl _ w).alloc (Nat.le_refl _) _)
   ·have HD2:=hide ((Xa HD3).trans (if_neg h7));have n5:(fk==5)=false:=by simp;omega
    have n6:(fk==6)=false:=by simp;omega
    have n7:(fk==7)=false:=by simp;omega
    have n8:(fk==8)=false:=by simp;omega
    clear HD3 h5 h6 h7;go_enter Tryz.func146,Tryz.ntmps146
    go_wp2
    first|go_end0|refine bodyPost_ret (results_none rfl _ _ _) rfl ?_
    rw[Xa HD2];exact(Xa HI).idleB ((Below.refl _ w).alloc (Nat.le_refl _) _)
end
section
variable {w W:World}{own:Nat→Nat}{i b:Nat}{c:Cfg}{s:St}{cl:Bool}{ch:Nat}{q cm o ev:Value}{qe ce oe:List Value}
theorem XaR (h:SAt w own i b c s cl ch q cm o ev qe ce oe)(was:Bool)(hl:s.out.length≤2199023255552):
  Calls Tryz.prog 90 #[.pointer (some ⟨b,0,none⟩),.bool was] w fun e w'=>Did i b c (change c was s) cl own w e w':=by
 have hlt:=h.lt;have c7:=h.Qp;have k1:=QZ h;have k2:=fun n=>Q7 (h.drewN n) false hl
 have hdef:change c was s=if s.state=2∧XO c s≠was then answer c false s else s:=rfl
 generalize XO c s=x at k1 hdef;have K2:=hide k2;have HD:=hide hdef;have HI:=hide h;clear h k2 hdef;by_cases h2:s.state=2
 ·have t2:((s.state:Int)==2)=true:=by simp[h2]
  by_cases hx:x=was
  ·have HD2:=hide ((Xa HD).trans (if_neg (fun hh=>hh.2 hx)));subst hx;clear HD h2;go_enter Tryz.func90,Tryz.ntmps90
   go_wp2_with fail
   refine k1.mono ?_;rintro e w0 ⟨rfl,n0,rfl⟩;clear k1;go_wp2
   first|go_end0|refine bodyPost_ret (results_none rfl _ _ _) rfl ?_
   rw[Xa HD2];exact(Xa HI).idleB (below_drewN (Below.refl _ w) _)
  ·have HD2:=hide ((Xa HD).trans (if_pos ⟨h2,hx⟩));have tx:(x != was)=true:=by simp[hx]
   have tx2:(x==was)=false:=by simp[hx]
   clear HD h2 hx;go_enter Tryz.func90,Tryz.ntmps90
   go_wp2_with fail
   refine k1.mono ?_;rintro e w0 ⟨rfl,n0,rfl⟩;clear k1;go_wp2_with fail
   refine(Xa K2 _).mono ?_;rintro e w1 ⟨rfl,own2,h3,u3⟩;have HR:=hide (And.intro h3 (Upd.of (w:=w) (below_drewN (Below.refl _ w) _) u3));clear h3 u3 K2;go_wp2
   first|go_end0|refine bodyPost_ret (results_none rfl _ _ _) rfl ?_
   rw[Xa HD2];exact⟨rfl,own2,(Xa HR).1,(Xa HR).2⟩
 ·have HD2:=hide ((Xa HD).trans (if_neg (fun hh=>h2 hh.1)));have t2:((s.state:Int)==2)=false:=by simp;omega
  clear HD h2;go_enter Tryz.func90,Tryz.ntmps90
  clear k1;go_wp2
  first|go_end0|refine bodyPost_ret (results_none rfl _ _ _) rfl ?_
  rw[Xa HD2];exact(Xa HI).idle
theorem Jq (h:SAt w own i b c s cl ch q cm o ev qe ce oe)(f:Fr)(fq:Option Addr)(fc:Nat)(hl:s.out.length≤2199023255552)(hl2:s.events.length≤2199023255552):
  Calls Tryz.prog 167 #[.pointer (some ⟨b,0,none⟩),frV f fq fc] w fun e w'=>Did i b c (Zo c f s) cl own w e w':=by
 have hlt:=h.lt;have hn0:=h.Xp w.heap.size (Nat.le_refl _);have K1:=hide (fun V (hV:Below w.heap.size w V)=>Js (h.later hV));clear h;unfold frV;go_enter Tryz.func167,Tryz.ntmps167
 go_wp2_with fail
 refine(Xa K1 _ ((Below.refl _ w).alloc (Nat.le_refl _) _)).mono ?_;rintro e w1 ⟨rfl,h1,u1⟩;obtain⟨y0,y1,y2,y3,y4,y5⟩:=Xt (Qh u1 hn0);have c7:=h1.Qp;have fz:=h1.fz;have hlt1:=h1.lt;have hK:Xb (· =b) w1 _:=(Xb.refl _ w1).setB 7 (.int .i64 (4:Nat));have h2:=h1.YL hK ((h1.hd.state 4).as {over s with state:=4} rfl) XB.same XB.same XB.same (.inl ⟨rfl,rfl⟩) (JC h1.cok h1.sok 4 (by omega) 0 0 (Nat.zero_le _) (Nat.zero_le _));have hbx:(w1.setCell ⟨b,7,none⟩ (.int .i64 (4:Nat))).heap[w.heap.size]?=w1.heap[w.heap.size]?:=Below.heap_setCell _ _ _ _ (by show w.heap.size≠b;omega);have hbx2:=hbx.trans (Qh u1 hn0);have hltx:w.heap.size<w1.heap.size:=by have:=u1.keeps.size;rw[Xk]at this;omega
 have hk:=ZH h2 f fq fc;unfold frV at hk;have K2:=hide hk;have H2:=hide h2;have U:=hide ((Upd.of (w:=w) ((Below.refl _ w).alloc (Nat.le_refl _) _) u1).trans (h1.upd hK));have BX:=hide hbx2;have K3:=hide (fun V hV=>Xd8 (h2.later (w':=V) hV) (X8 c f&&f.p) hl);have hmod:(X8 c f&&f.p)=(X8 c f&&f.p):=rfl;clear hk h2 u1 h1 hK hbx hbx2 K1 hmod;generalize hx:X8 c f=x at K2 K3;have HX:=hide hx;clear hx;have hne:w.heap.size≠b:=by omega
 have HD:Hid (Zo c f s=tell 2 (report c (x&&f.p) {over s with state:=4})):=hide (by unfold Zo;rw[Xa HX]);clear HX;cases x with
 |true=>
  simp only[Bool.true_and]at K3 HD;go_wp2_with fail
  refine(Xa K2).mono ?_;rintro e w2 ⟨rfl,hb⟩;have hbw:w2.heap[w.heap.size]?=_:=(hb.block w.heap.size (by rw[size_setCell];exact hltx)).trans (Xa BX);obtain⟨z0,z1,z2,z3,z4,z5⟩:=Xt hbw;have K4:=hide (Xa K3 w2 hb);have U2:=hide ((Xa U).trans (Upd.of hb (Upd.refl i own w2)));clear hb hbw K3 K2 BX U y0 y1 y2 y3 y4 y5 c7 fz H2;go_wp2_with fail
  refine(Xa K4).mono ?_;rintro e w3 ⟨rfl,own3,⟨ch3,q3,cm3,o3,ev3,qe3,ce3,oe3,h3⟩,u3⟩;have K5:=hide (Xa6 h3 2 hl2);have U3:=hide ((Xa U2).trans u3);clear K4 h3 u3 U2;go_wp2_with fail
  refine(Xa K5).mono ?_;rintro e w4 ⟨rfl,own4,h4,u4⟩;have HR:=hide (And.intro h4 ((Xa U3).trans u4));clear h4 u4 K5 U3;go_wp2
  first|go_end0|refine bodyPost_ret (results_none rfl _ _ _) rfl ?_
  rw[Xa HD];exact⟨rfl,own4,(Xa HR).1,(Xa HR).2⟩
 |false=>
  simp only[Bool.false_and]at K3 HD;go_wp2_with fail
  refine(Xa K2).mono ?_;rintro e w2 ⟨rfl,hb⟩;have K4:=hide (Xa K3 w2 hb);have U2:=hide ((Xa U).trans (Upd.of hb (Upd.refl i own w2)));clear hb K3 K2 BX U y0 y1 y2 y3 y4 y5 c7 fz H2;go_wp2_with fail
  refine(Xa K4).mono ?_;rintro e w3 ⟨rfl,own3,⟨ch3,q3,cm3,o3,ev3,qe3,ce3,oe3,h3⟩,u3⟩;have K5:=hide (Xa6 h3 2 hl2);have U3:=hide ((Xa U2).trans u3);clear K4 h3 u3 U2;go_wp2_with fail
  refine(Xa K5).mono ?_;rintro e w4 ⟨rfl,own4,h4,u4⟩;have HR:=hide (And.intro h4 ((Xa U3).trans u4));clear h4 u4 K5 U3;go_wp2
  first|go_end0|refine bodyPost_ret (results_none rfl _ _ _) rfl ?_
  rw[Xa HD];exact⟨rfl,own4,(Xa HR).1,(Xa HR).2⟩
end
theorem Q8 (w:World)(s:ByteArray):(convert 9 28 (.string s)).run Tryz.prog w=.ok (.slice (some ⟨w.heap.size,0,none⟩) s.size (grownCap w s.size 0 5)) (Lib.bytesWorld w 5 s):=
 Lib.run_convert_string_bytes w 9 28 5 s Tryz.underlying9 Tryz.underlying28 Tryz.underlying5
theorem bytesWorld_below (w:World)(s:ByteArray):Below w.heap.size w (Lib.bytesWorld w 5 s):=by
 refine⟨?_,?_,?_,by rw[Lib.bytesWorld_size];omega,fun k hk=>Lib.bytesWorld_at_old w _ s k hk⟩
 all_goals rfl
theorem ZC (w:World)(s:ByteArray):Seg (Lib.bytesWorld w 5 s) w.heap.size 0 s.data.toList:=by
 intro i hi;have hl:s.data.toList.length=s.size:=by rw[Array.length_toList];rfl
 rw[Nat.zero_add,Lib.bytesWorld_cell w _ _ i (by omega)]
end Go.Proofs.YtkalonhalhdlaaaGreatDoor
