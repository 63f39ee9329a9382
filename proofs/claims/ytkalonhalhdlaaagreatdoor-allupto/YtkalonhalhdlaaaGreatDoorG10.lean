import Derived.Test.YtkalonhalhdlaaaGreatDoorG09
import Derived.Test.YtkalonhalhdlaaaGreatDoorRows
import Derived.ProofKit
import Derived.LaidMore
import Derived.OpenShut
set_option maxHeartbeats 4000000
set_option maxRecDepth 100000
namespace Go.Proofs.YtkalonhalhdlaaaGreatDoor
open Go.RowKit
section
variable {w W:World}{own:Nat→Nat}{i b:Nat}{c:Cfg}{s:St}{cl:Bool}{ch:Nat}{q cm o ev:Value}{qe ce oe:List Value}
theorem Zv.of {T:Option Nat}{own1:Nat→Nat}{w1:World}(hb:Below w.heap.size w W)(h:Zv T i own own1 W w1):Zv T i own own1 w w1:=
 (show Upd i own own w W from⟨Xb.of hb,fun _ _=>rfl⟩).JY h
theorem XdT (h:SAt w own i b c s cl ch q cm o ev qe ce oe)(fa fk:Int)(fp:Bool)(ns:Int)(nr:Nat)(info:Msg)(fq:Option Addr)(fc:Nat)(hnr:nr<c.m)(hvm:ahead c s s.vm≤s.queue.length)(hv:w.ownsRow 0 5 1 (.slice fq info.length fc) info.length (Lib.byteCells info))(hfree:∀k,(Value.slice fq info.length fc).ownBlock=some k→own k=0∧k≠0)(hl:s.out.length+18≤2199023255552)(hl2:s.events.length+2≤2199023255552):
  Calls Tryz.prog 145 #[.pointer (some ⟨b,0,none⟩),frV (⟨fa,fk,fp,ns,(nr:Nat),info⟩:Fr) fq fc] w fun e w'=>XbB (Value.slice fq info.length fc).ownBlock i b c (Zu c (⟨fa,fk,fp,ns,(nr:Nat),info⟩:Fr) s) cl own w e w':=by
 have hlt:=h.lt;have hbw:Below w.heap.size w (w.alloc (.cells #[.int .i64 fa,.int .i64 fk,.bool fp,.int .i64 ns,.int .i64 (nr:Nat),.slice fq info.length fc] 30)):=(Below.refl _ w).alloc (Nat.le_refl _) _;have k5:=fun V (hV:Below w.heap.size w V)=>Xdw (h.later hV) 2 (⟨fa,fk,fp,ns,(nr:Nat),info⟩:Fr) fq fc (by omega) (by omega)
 have k6:=fun V (hV:Below w.heap.size w V)=>Xks (h.later hV) (⟨fa,fk,fp,ns,(nr:Nat),info⟩:Fr) fq fc (by omega) (by omega)
 have k8:=fun V (hV:Below w.heap.size w V)=>JS (h.later hV) 3 (by omega)
 have k7:=fun V (hV:Below w.heap.size w V)=>Xa6 (h.later hV) 2 (by omega)
 have hvV:=fun V (hV:Below w.heap.size w V)=>Xc hv (Xb.of (X:=fun _=>False) hV) (fun _ _=>id)
 have n1:=fun V (hV:Below w.heap.size w V)=>Xgx (h.later hV) fa fp ns nr info fq fc hnr hvm (hvV V hV) hfree hl (by omega)
 have n2:=fun V (hV:Below w.heap.size w V)=>Xgy (h.later hV) fa fp ns nr info fq fc hnr hvm (hvV V hV) hfree hl (by omega)
 have n3:=fun V (hV:Below w.heap.size w V)=>Xgz (h.later hV) fa fp ns nr info fq fc hnr hvm (hvV V hV) hfree hl (by omega)
 have n4:=fun V (hV:Below w.heap.size w V)=>XgA (h.later hV) fa fp ns nr info fq fc hnr hvm (hvV V hV) hfree hl (by omega)
 have hdef:Zu c (⟨fa,fk,fp,ns,(nr:Nat),info⟩:Fr) s=if fk=5 then accept c fp 2 s else if fk=6 then agree c fp s else if fk=8 then Zi 3 s else if fk=7∨fk=9 then Xaj c (tell 2 s)else if fk=1∨fk=2∨fk=3∨fk=4 then YO c (⟨fa,fk,fp,ns,(nr:Nat),info⟩:Fr) s else s:=rfl
 unfold frV at k5 k6 n1 n2 n3 n4⊢;simp only at k5 k6 n1 n2 n3 n4⊢;have K5:=hide k5;have K6:=hide k6;have K7:=hide k7;have K8:=hide k8;have N1:=hide n1;have N2:=hide n2;have N3:=hide n3;have N4:=hide n4;have HD:=hide hdef;have HB:=hide hbw;have HI:=hide h;clear h k5 k6 k7 k8 n1 n2 n3 n4 hdef hbw hvV hv hfree;by_cases h5:fk=5
 ·have HD2:=hide ((Xa HD).trans (if_pos h5));clear HD;subst h5;go_enter Tryz.func145,Tryz.ntmps145
  go_wp2_with fail
  refine(Xa K5 _ (Xa HB)).mono ?_;rintro e w1 ⟨rfl,own2,h3,u3⟩;have HR:=hide (And.intro h3 (Upd.t (T:=(Value.slice fq info.length fc).ownBlock) (Upd.of (w:=w) (Xa HB) u3)));clear h3 u3 K5;go_wp2
  first|go_end0|refine bodyPost_ret (results_none rfl _ _ _) rfl ?_
  rw[Xa HD2];exact⟨rfl,_,(Xa HR).1,(Xa HR).2⟩
 have HD5:=hide ((Xa HD).trans (if_neg h5));clear HD;by_cases h6:fk=6
 ·have HD2:=hide ((Xa HD5).trans (if_pos h6));clear HD5;subst h6;go_enter Tryz.func145,Tryz.ntmps145
  go_wp2_with fail
  refine(Xa K6 _ (Xa HB)).mono ?_;rintro e w1 ⟨rfl,own2,h3,u3⟩;have HR:=hide (And.intro h3 (Upd.t (T:=(Value.slice fq info.length fc).ownBlock) (Upd.of (w:=w) (Xa HB) u3)));clear h3 u3 K6;go_wp2
  first|go_end0|refine bodyPost_ret (results_none rfl _ _ _) rfl ?_
  rw[Xa HD2];exact⟨rfl,_,(Xa HR).1,(Xa HR).2⟩
 have HD6:=hide ((Xa HD5).trans (if_neg h6));clear HD5;by_cases h8:fk=8
 ·have HD2:=hide ((Xa HD6).trans (if_pos h8));clear HD6;subst h8;go_enter Tryz.func145,Tryz.ntmps145
  go_wp2_with fail
  refine(Xa K8 _ (Xa HB)).mono ?_;rintro e w1 ⟨rfl,own2,h3,u3⟩;have HR:=hide (And.intro h3 (Upd.t (T:=(Value.slice fq info.length fc).ownBlock) (Upd.of (w:=w) (Xa HB) u3)));clear h3 u3 K8;go_wp2
  first|go_end0|refine bodyPost_ret (results_none rfl _ _ _) rfl ?_
  rw[Xa HD2];exact⟨rfl,_,(Xa HR).1,(Xa HR).2⟩
 have HD8:=hide ((Xa HD6).trans (if_neg h8));clear HD6;by_cases h7:fk=7∨fk=9
 ·have HD2:=hide ((Xa HD8).trans (if_pos h7));clear HD8;rcases h7 with rfl|rfl
  all_goals
   go_enter Tryz.func145,Tryz.ntmps145
   go_wp2_with fail
   refine(Xa K7 _ (Xa HB)).mono ?_;rintro e w1 ⟨rfl,own1,⟨ch1,q1,cm1,o1,ev1,qe1,ce1,oe1,h1⟩,u1⟩;have K9:=hide (Xf6 h1 (by show s.out.length≤_;omega));have U1:=hide (Upd.of (w:=w) (Xa HB) u1);clear K7 h1 u1;go_wp2_with fail
   refine(Xa K9).mono ?_;rintro e w2 ⟨rfl,own2,h3,u3⟩;have HR:=hide (And.intro h3 (Upd.t (T:=(Value.slice fq info.length fc).ownBlock) ((Xa U1).trans u3)));clear h3 u3 K9 U1;go_wp2
   first|go_end0|refine bodyPost_ret (results_none rfl _ _ _) rfl ?_
   rw[Xa HD2];exact⟨rfl,_,(Xa HR).1,(Xa HR).2⟩
 have HD7:=hide ((Xa HD8).trans (if_neg h7));clear HD8;by_cases h1:fk=1∨fk=2∨fk=3∨fk=4
 ·have HD2:=hide ((Xa HD7).trans (if_pos h1));clear HD7;rcases h1 with rfl|rfl|rfl|rfl
  ·go_enter Tryz.func145,Tryz.ntmps145
   go_wp2_with fail
   refine(Xa N1 _ (Xa HB)).mono ?_;rintro e w1 ⟨rfl,own2,h3,u3⟩;have HR:=hide (And.intro h3 (Zv.of (w:=w) (Xa HB) u3));clear h3 u3 N1;go_wp2
   first|go_end0|refine bodyPost_ret (results_none rfl _ _ _) rfl ?_
   rw[Xa HD2];exact⟨rfl,_,(Xa HR).1,(Xa HR).2⟩
  ·go_enter Tryz.func145,Tryz.ntmps145
   go_wp2_with fail
   refine(Xa N2 _ (Xa HB)).mono ?_;rintro e w1 ⟨rfl,own2,h3,u3⟩;have HR:=hide (And.intro h3 (Zv.of (w:=w) (Xa HB) u3));clear h3 u3 N2;go_wp2
   first|go_end0|refine bodyPost_ret (results_none rfl _ _ _) rfl ?_
   rw[Xa HD2];exact⟨rfl,_,(Xa HR).1,(Xa HR).2⟩
  ·go_enter Tryz.func145,Tryz.ntmps145
   go_wp2_with fail
   refine(Xa N3 _ (Xa HB)).mono ?_;rintro e w1 ⟨rfl,own2,h3,u3⟩;have HR:=hide (And.intro h3 (Zv.of (w:=w) (Xa HB) u3));clear h3 u3 N3;go_wp2
   first|go_end0|refine bodyPost_ret (results_none rfl _ _ _) rfl ?_
   rw[Xa HD2];exact⟨rfl,_,(Xa HR).1,(Xa HR).2⟩
  ·go_enter Tryz.func145,Tryz.ntmps145
   go_wp2_with fail
   refine(Xa N4 _ (Xa HB)).mono ?_;rintro e w1 ⟨rfl,own2,h3,u3⟩;have HR:=hide (And.intro h3 (Zv.of (w:=w) (Xa HB) u3));clear h3 u3 N4;go_wp2
   first|go_end0|refine bodyPost_ret (results_none rfl _ _ _) rfl ?_
   rw[Xa HD2];exact⟨rfl,_,(Xa HR).1,(Xa HR).2⟩
 have HD2:=hide ((Xa HD7).trans (if_neg h1));have n1:(fk==1)=false:=by simp;omega
 have n2:(fk==2)=false:=by simp;omega
 have n3:(fk==3)=false:=by simp;omega
 have n4:(fk==4)=false:=by simp;omega
 have n5:(fk==5)=false:=by simp;omega
 have n6:(fk==6)=false:=by simp;omega
 have n7:(fk==7)=false:=by simp;omega
 have n8:(fk==8)=false:=by simp;omega
 have n9:(fk==9)=false:=by simp;omega
 clear HD7 h1 h5 h6 h7 h8 K5 K6 K7 K8 N1 N2 N3 N4;go_enter Tryz.func145,Tryz.ntmps145
 go_wp2
 first|go_end0|refine bodyPost_ret (results_none rfl _ _ _) rfl ?_
 rw[Xa HD2];exact Did.t ((Xa HI).idleB (Xa HB))
theorem Xeo (h:SAt w own i b c s cl ch q cm o ev qe ce oe)(fa fk:Int)(fp:Bool)(ns:Int)(nr:Nat)(info:Msg)(fq:Option Addr)(fc:Nat)(hnr:nr<c.m)(hvm:ahead c s s.vm≤s.queue.length)(hv:w.ownsRow 0 5 1 (.slice fq info.length fc) info.length (Lib.byteCells info))(hfree:∀k,(Value.slice fq info.length fc).ownBlock=some k→own k=0∧k≠0)(hl:s.out.length+18≤2199023255552)(hl2:s.events.length+2≤2199023255552):
  Calls Tryz.prog 147 #[.pointer (some ⟨b,0,none⟩),frV (⟨fa,fk,fp,ns,(nr:Nat),info⟩:Fr) fq fc] w fun e w'=>XbB (Value.slice fq info.length fc).ownBlock i b c (Y3 c (⟨fa,fk,fp,ns,(nr:Nat),info⟩:Fr) s) cl own w e w':=by
 have hlt:=h.lt;have hbw:Below w.heap.size w (w.alloc (.cells #[.int .i64 fa,.int .i64 fk,.bool fp,.int .i64 ns,.int .i64 (nr:Nat),.slice fq info.length fc] 30)):=(Below.refl _ w).alloc (Nat.le_refl _) _;have hvV:=fun V (hV:Below w.heap.size w V)=>Xc hv (Xb.of (X:=fun _=>False) hV) (fun _ _=>id)
 have k1:=fun V (hV:Below w.heap.size w V)=>XdT (h.later hV) fa fk fp ns nr info fq fc hnr hvm (hvV V hV) hfree hl hl2
 have k2:=fun V (hV:Below w.heap.size w V)=>ZH (h.later hV) (⟨fa,fk,fp,ns,(nr:Nat),info⟩:Fr) fq fc
 have k3:=fun V (hV:Below w.heap.size w V)=>Xd8 (h.later hV) fp (by omega)
 have hdef:Y3 c (⟨fa,fk,fp,ns,(nr:Nat),info⟩:Fr) s=if fk=5∨fk=6∨fk=8 then Zu c (⟨fa,fk,fp,ns,(nr:Nat),info⟩:Fr) s else if fk=1∨fk=2∨fk=3∨fk=4 then(if X8 c (⟨fa,fk,fp,ns,(nr:Nat),info⟩:Fr)then report c fp s else s)else s:=rfl
 unfold frV at k1 k2⊢;simp only at k1 k2⊢;generalize hx:X8 c (⟨fa,fk,fp,ns,(nr:Nat),info⟩:Fr)=x at k2 hdef;have K1:=hide k1;have K2:=hide k2;have K3:=hide k3;have HD:=hide hdef;have HB:=hide hbw;have HI:=hide h;clear h k1 k2 k3 hdef hbw hvV hv hfree hx;by_cases h5:fk=5∨fk=6∨fk=8
 ·have HD2:=hide ((Xa HD).trans (if_pos h5));clear HD;rcases h5 with rfl|rfl|rfl
  all_goals
   go_enter Tryz.func147,Tryz.ntmps147
   go_wp2_with fail
   refine(Xa K1 _ (Xa HB)).mono ?_;rintro e w1 ⟨rfl,own2,h3,u3⟩;have HR:=hide (And.intro h3 (Zv.of (w:=w) (Xa HB) u3));clear h3 u3 K1;go_wp2
   first|go_end0|refine bodyPost_ret (results_none rfl _ _ _) rfl ?_
   rw[Xa HD2];exact⟨rfl,_,(Xa HR).1,(Xa HR).2⟩
 have HD5:=hide ((Xa HD).trans (if_neg h5));clear HD;by_cases h1:fk=1∨fk=2∨fk=3∨fk=4
 ·have HD6:=hide ((Xa HD5).trans (if_pos h1));clear HD5 h5;cases x with
  |true=>
   have HD2:=hide ((Xa HD6).trans (if_pos rfl));clear HD6;rcases h1 with rfl|rfl|rfl|rfl
   all_goals
    go_enter Tryz.func147,Tryz.ntmps147
    go_wp2_with fail
    refine(Xa K2 _ (Xa HB)).mono ?_;rintro e w1 ⟨rfl,hb⟩;obtain⟨y0,y1,y2,y3,y4,y5⟩:=Xt (Xc9 hb);have HB1:=hide ((Xa HB).trans (hb.mono (by simp)));clear hb K2;go_wp2_with fail
    refine(Xa K3 _ (Xa HB1)).mono ?_;rintro e w1 ⟨rfl,own2,h3,u3⟩;have HR:=hide (And.intro h3 (Upd.t (T:=(Value.slice fq info.length fc).ownBlock) (Upd.of (w:=w) (Xa HB1) u3)));clear h3 u3 K3;go_wp2
    first|go_end0|refine bodyPost_ret (results_none rfl _ _ _) rfl ?_
    rw[Xa HD2];exact⟨rfl,_,(Xa HR).1,(Xa HR).2⟩
  |false=>
   have HD2:=hide ((Xa HD6).trans (if_neg (by simp)));clear HD6;rcases h1 with rfl|rfl|rfl|rfl
   all_goals
    go_enter Tryz.func147,Tryz.ntmps147
    go_wp2_with fail
    refine(Xa K2 _ (Xa HB)).mono ?_;rintro e w1 ⟨rfl,hb⟩;have HB1:=hide ((Xa HB).trans (hb.mono (by simp)));clear hb K2;go_wp2
    first|go_end0|refine bodyPost_ret (results_none rfl _ _ _) rfl ?_
    rw[Xa HD2];exact Did.t ((Xa HI).idleB (Xa HB1))
 have HD2:=hide ((Xa HD5).trans (if_neg h1));have n1:(fk==1)=false:=by simp;omega
 have n2:(fk==2)=false:=by simp;omega
 have n3:(fk==3)=false:=by simp;omega
 have n4:(fk==4)=false:=by simp;omega
 have n5:(fk==5)=false:=by simp;omega
 have n6:(fk==6)=false:=by simp;omega
 have n8:(fk==8)=false:=by simp;omega
 clear HD5 h1 h5 K1 K2 K3;go_enter Tryz.func147,Tryz.ntmps147
 go_wp2
 first|go_end0|refine bodyPost_ret (results_none rfl _ _ _) rfl ?_
 rw[Xa HD2];exact Did.t ((Xa HI).idleB (Xa HB))
theorem XbZ (h:SAt w own i b c s cl ch q cm o ev qe ce oe)(fa fk:Int)(fp:Bool)(ns:Int)(nr:Nat)(info:Msg)(fq:Option Addr)(fc:Nat)(hnr:nr<c.m)(hvm:ahead c s s.vm≤s.queue.length)(hv:w.ownsRow 0 5 1 (.slice fq info.length fc) info.length (Lib.byteCells info))(hfree:∀k,(Value.slice fq info.length fc).ownBlock=some k→own k=0∧k≠0)(hl:s.out.length+18≤2199023255552)(hl2:s.events.length+2≤2199023255552):
  Calls Tryz.prog 121 #[.pointer (some ⟨b,0,none⟩),frV (⟨fa,fk,fp,ns,(nr:Nat),info⟩:Fr) fq fc] w fun e w'=>XbB (Value.slice fq info.length fc).ownBlock i b c (Yr c (⟨fa,fk,fp,ns,(nr:Nat),info⟩:Fr) s) cl own w e w':=by
 have hlt:=h.lt;have c7:=h.Qp;have hs4:=h.sok.state;have hbw:Below w.heap.size w (w.alloc (.cells #[.int .i64 fa,.int .i64 fk,.bool fp,.int .i64 ns,.int .i64 (nr:Nat),.slice fq info.length fc] 30)):=(Below.refl _ w).alloc (Nat.le_refl _) _;have hvV:=fun V (hV:Below w.heap.size w V)=>Xc hv (Xb.of (X:=fun _=>False) hV) (fun _ _=>id)
 have k0:=fun V (hV:Below w.heap.size w V)=>Xgu (h.later hV) (⟨fa,fk,fp,ns,(nr:Nat),info⟩:Fr) fq fc (by omega) (by omega)
 have k1:=fun V (hV:Below w.heap.size w V)=>XdN (h.later hV) (⟨fa,fk,fp,ns,(nr:Nat),info⟩:Fr) fq fc (by omega) (by omega)
 have k2:=fun V (hV:Below w.heap.size w V)=>XdT (h.later hV) fa fk fp ns nr info fq fc hnr hvm (hvV V hV) hfree hl hl2
 have k3:=fun V (hV:Below w.heap.size w V)=>XdP (h.later hV) (⟨fa,fk,fp,ns,(nr:Nat),info⟩:Fr) fq fc (by omega) (by omega)
 have k4:=fun V (hV:Below w.heap.size w V)=>Xeo (h.later hV) fa fk fp ns nr info fq fc hnr hvm (hvV V hV) hfree hl hl2
 have hdef:Yr c (⟨fa,fk,fp,ns,(nr:Nat),info⟩:Fr) s=if s.state=0 then Zw c (⟨fa,fk,fp,ns,(nr:Nat),info⟩:Fr) s else if s.state=1 then YM c (⟨fa,fk,fp,ns,(nr:Nat),info⟩:Fr) s else if s.state=2 then Zu c (⟨fa,fk,fp,ns,(nr:Nat),info⟩:Fr) s else if s.state=3 then YN c (⟨fa,fk,fp,ns,(nr:Nat),info⟩:Fr) s else if s.state=4 then Y3 c (⟨fa,fk,fp,ns,(nr:Nat),info⟩:Fr) s else s:=rfl
 unfold frV at k0 k1 k2 k3 k4⊢;simp only at k0 k1 k2 k3 k4⊢;have K0:=hide k0;have K1:=hide k1;have K2:=hide k2;have K3:=hide k3;have K4:=hide k4;have HB:=hide hbw;clear h k0 k1 k2 k3 k4 hbw hvV hv hfree;have hst:s.state=0∨s.state=1∨s.state=2∨s.state=3∨s.state=4:=by omega
 rcases hst with e|e|e|e|e
 ·have HD2:Hid (Yr c (⟨fa,fk,fp,ns,(nr:Nat),info⟩:Fr) s=Zw c (⟨fa,fk,fp,ns,(nr:Nat),info⟩:Fr) s):=hide (by rw[hdef,if_pos e]);rw[e]at c7;clear e hdef;go_enter Tryz.func121,Tryz.ntmps121
  go_wp2_with fail
  refine(Xa K0 _ (Xa HB)).mono ?_;rintro e w1 ⟨rfl,own2,h3,u3⟩;have HR:=hide (And.intro h3 (Upd.t (T:=(Value.slice fq info.length fc).ownBlock) (Upd.of (w:=w) (Xa HB) u3)));clear h3 u3 K0;go_wp2
  first|go_end0|refine bodyPost_ret (results_none rfl _ _ _) rfl ?_
  rw[Xa HD2];exact⟨rfl,_,(Xa HR).1,(Xa HR).2⟩
 ·have HD2:Hid (Yr c (⟨fa,fk,fp,ns,(nr:Nat),info⟩:Fr) s=YM c (⟨fa,fk,fp,ns,(nr:Nat),info⟩:Fr) s):=hide (by rw[hdef,if_neg (by omega),if_pos e]);rw[e]at c7;clear e hdef;go_enter Tryz.func121,Tryz.ntmps121
  go_wp2_with fail
  refine(Xa K1 _ (Xa HB)).mono ?_;rintro e w1 ⟨rfl,own2,h3,u3⟩;have HR:=hide (And.intro h3 (Upd.t (T:=(Value.slice fq info.length fc).ownBlock) (Upd.of (w:=w) (Xa HB) u3)));clear h3 u3 K1;go_wp2
  first|go_end0|refine bodyPost_ret (results_none rfl _ _ _) rfl ?_
  rw[Xa HD2];exact⟨rfl,_,(Xa HR).1,(Xa HR).2⟩
 ·have HD2:Hid (Yr c (⟨fa,fk,fp,ns,(nr:Nat),info⟩:Fr) s=Zu c (⟨fa,fk,fp,ns,(nr:Nat),info⟩:Fr) s):=hide (by rw[hdef,if_neg (by omega),if_neg (by omega),if_pos e]);rw[e]at c7;clear e hdef;go_enter Tryz.func121,Tryz.ntmps121
  go_wp2_with fail
  refine(Xa K2 _ (Xa HB)).mono ?_;rintro e w1 ⟨rfl,own2,h3,u3⟩;have HR:=hide (And.intro h3 (Zv.of (w:=w) (Xa HB) u3));clear h3 u3 K2;go_wp2
  first|go_end0|refine bodyPost_ret (results_none rfl _ _ _) rfl ?_
  rw[Xa HD2];exact⟨rfl,_,(Xa HR).1,(Xa HR).2⟩
 ·have HD2:Hid (Yr c (⟨fa,fk,fp,ns,(nr:Nat),info⟩:Fr) s=YN c (⟨fa,fk,fp,ns,(nr:Nat),info⟩:Fr) s):=hide (by rw[hdef,if_neg (by omega),if_neg (by omega),if_neg (by omega),if_pos e]);rw[e]at c7;clear e hdef;go_enter Tryz.func121,Tryz.ntmps121
  go_wp2_with fail
  refine(Xa K3 _ (Xa HB)).mono ?_;rintro e w1 ⟨rfl,own2,h3,u3⟩;have HR:=hide (And.intro h3 (Upd.t (T:=(Value.slice fq info.length fc).ownBlock) (Upd.of (w:=w) (Xa HB) u3)));clear h3 u3 K3;go_wp2
  first|go_end0|refine bodyPost_ret (results_none rfl _ _ _) rfl ?_
  rw[Xa HD2];exact⟨rfl,_,(Xa HR).1,(Xa HR).2⟩
 ·have HD2:Hid (Yr c (⟨fa,fk,fp,ns,(nr:Nat),info⟩:Fr) s=Y3 c (⟨fa,fk,fp,ns,(nr:Nat),info⟩:Fr) s):=hide (by rw[hdef,if_neg (by omega),if_neg (by omega),if_neg (by omega),if_neg (by omega),if_pos e]);rw[e]at c7;clear e hdef;go_enter Tryz.func121,Tryz.ntmps121
  go_wp2_with fail
  refine(Xa K4 _ (Xa HB)).mono ?_;rintro e w1 ⟨rfl,own2,h3,u3⟩;have HR:=hide (And.intro h3 (Zv.of (w:=w) (Xa HB) u3));clear h3 u3 K4;go_wp2
  first|go_end0|refine bodyPost_ret (results_none rfl _ _ _) rfl ?_
  rw[Xa HD2];exact⟨rfl,_,(Xa HR).1,(Xa HR).2⟩
end
def Ans (n:Nat)(i b:Nat)(c:Cfg)(s':St)(cl:Bool)(own:Nat→Nat)(w:World)(e:Ending)(w':World):Prop:=
 e=.returned (.int .i64 n)∧∃own',Stn w' own' i b c s' cl∧Upd i own own' w w'
section
variable {w W:World}{own:Nat→Nat}{i b:Nat}{c:Cfg}{s:St}{cl:Bool}{ch:Nat}{q cm o ev:Value}{qe ce oe:List Value}
theorem SAt.ans (h:SAt w own i b c s cl ch q cm o ev qe ce oe)(n:Nat){w':World}(hb:Below w.heap.size w w'):Ans n i b c s cl own w (.returned (.int .i64 n)) w':=⟨rfl,own,⟨_,_,_,_,_,_,_,_,h.later hb⟩,(Upd.refl i own w').of hb⟩
theorem Xn3 (m k:Nat)(hm:m=8∨m=128)(l:List UInt8):∃nr:Nat,(XY m k l).nr=nr∧nr<m:=by
 have h0:(l.getD 0 0).toNat<256:=(l.getD 0 0).toNat_lt;have h1:(l.getD 1 0).toNat<256:=(l.getD 1 0).toNat_lt;by_cases h4:4<k
 ·have e:(XY m k l).nr=((0:Nat):Int):=by simp only[XY,h4,if_true];rfl
  exact⟨0,e,by omega⟩
 ·by_cases h8:m=8
  ·subst h8;have e:(XY 8 k l).nr=(((l.getD 0 0).toNat / 32:Nat):Int):=by simp only[XY,h4,if_true,if_false]
   exact⟨_,e,by omega⟩
  ·have e:(XY m k l).nr=(((l.getD 1 0).toNat / 2:Nat):Int):=by simp only[XY,h4,h8,if_false]
   exact⟨_,e,by omega⟩
theorem Xa0 (m:Nat)(hm:m=8∨m=128)(l:List UInt8):∃nr:Nat,(Xi m l).2.nr=nr∧nr<m:=by
 unfold Xi;dsimp only
 split
 ·exact ⟨0,rfl,by omega⟩
 ·split
  ·exact ⟨0,rfl,by omega⟩
  ·split
   ·exact ⟨0,rfl,by omega⟩
   ·exact Xn3 m _ hm _
end
section
variable {w W:World}{own:Nat→Nat}{i b:Nat}{c:Cfg}{s:St}{cl:Bool}{ch:Nat}{q cm o ev:Value}{qe ce oe:List Value}
theorem XhH (h:SAt w own i b c s cl ch q cm o ev qe ce oe)(hl:s.out.length+18≤2199023255552):
  Calls Tryz.prog 51 #[.pointer (some ⟨b,0,none⟩)] w fun e w'=>Ans (if cl then 8 else(X4 c s).1) i b c (if cl then s else(X4 c s).2) cl own w e w':=by
 have hlt:=h.lt;have k1:=YE h;cases cl with
 |true=>
  have H:=hide h;clear h;go_enter Tryz.func51,Tryz.ntmps51
  go_wp2_with fail
  refine k1.mono ?_;rintro e w1 ⟨rfl,hw1⟩;subst hw1;clear k1;go_wp2
  go_ret
  exact(Xa H).ans 8 (Below.refl _ _)
 |false=>
  have c7:=h.Qp;have hs4:=h.sok.state;have K2:=hide (Xf6 h (by omega));have H:=hide h;clear h;have hst:s.state=0∨s.state=1∨s.state=2∨s.state=3∨s.state=4:=by omega
  rcases hst with e|e|e|e|e
  ·have HD:Hid (X4 c s=(0,Xaj c s)):=hide (by unfold X4;simp[e]);rw[e]at c7;clear e;go_enter Tryz.func51,Tryz.ntmps51
   go_wp2_with fail
   refine k1.mono ?_;rintro e w1 ⟨rfl,hw1⟩;subst hw1;clear k1;go_wp2_with fail
   refine(Xa K2).mono ?_;rintro e w2 ⟨rfl,own2,h3,u3⟩;have HR:=hide (And.intro h3 u3);clear h3 u3 K2;go_wp2
   go_ret
   dsimp only
   rw[Xa HD];exact⟨rfl,_,(Xa HR).1,(Xa HR).2⟩
  ·have HD:Hid (X4 c s=(6,s)):=hide (by unfold X4;simp[e]);rw[e]at c7;clear e K2;go_enter Tryz.func51,Tryz.ntmps51
   go_wp2_with fail
   refine k1.mono ?_;rintro e w1 ⟨rfl,hw1⟩;subst hw1;clear k1;go_wp2
   go_ret
   dsimp only
   rw[Xa HD];exact(Xa H).ans 6 (Below.refl _ _)
  ·have HD:Hid (X4 c s=(6,s)):=hide (by unfold X4;simp[e]);rw[e]at c7;clear e K2;go_enter Tryz.func51,Tryz.ntmps51
   go_wp2_with fail
   refine k1.mono ?_;rintro e w1 ⟨rfl,hw1⟩;subst hw1;clear k1;go_wp2
   go_ret
   dsimp only
   rw[Xa HD];exact(Xa H).ans 6 (Below.refl _ _)
  ·have HD:Hid (X4 c s=(6,s)):=hide (by unfold X4;simp[e]);rw[e]at c7;clear e K2;go_enter Tryz.func51,Tryz.ntmps51
   go_wp2_with fail
   refine k1.mono ?_;rintro e w1 ⟨rfl,hw1⟩;subst hw1;clear k1;go_wp2
   go_ret
   dsimp only
   rw[Xa HD];exact(Xa H).ans 6 (Below.refl _ _)
  ·have HD:Hid (X4 c s=(0,Xaj c s)):=hide (by unfold X4;simp[e]);rw[e]at c7;clear e;go_enter Tryz.func51,Tryz.ntmps51
   go_wp2_with fail
   refine k1.mono ?_;rintro e w1 ⟨rfl,hw1⟩;subst hw1;clear k1;go_wp2_with fail
   refine(Xa K2).mono ?_;rintro e w2 ⟨rfl,own2,h3,u3⟩;have HR:=hide (And.intro h3 u3);clear h3 u3 K2;go_wp2
   go_ret
   dsimp only
   rw[Xa HD];exact⟨rfl,_,(Xa HR).1,(Xa HR).2⟩
theorem Xk7 (h:SAt w own i b c s cl ch q cm o ev qe ce oe)(hl:s.out.length+18≤2199023255552):
  Calls Tryz.prog 53 #[.pointer (some ⟨b,0,none⟩)] w fun e w'=>Ans (if cl then 8 else(YF c s).1) i b c (if cl then s else(YF c s).2) cl own w e w':=by
 have hlt:=h.lt;have k1:=YE h;cases cl with
 |true=>
  have H:=hide h;clear h;go_enter Tryz.func53,Tryz.ntmps53
  go_wp2_with fail
  refine k1.mono ?_;rintro e w1 ⟨rfl,hw1⟩;subst hw1;clear k1;go_wp2
  go_ret
  exact(Xa H).ans 8 (Below.refl _ _)
 |false=>
  have c7:=h.Qp;have hs4:=h.sok.state;have K2:=hide (XiE h 3 6 (.inr rfl) (by omega));have H:=hide h;clear h;have hst:s.state=0∨s.state=1∨s.state=2∨s.state=3∨s.state=4:=by omega
  rcases hst with e|e|e|e|e
  ·have HD:Hid (YF c s=(6,s)):=hide (by unfold YF;simp[e]);rw[e]at c7;clear e K2;go_enter Tryz.func53,Tryz.ntmps53
   go_wp2_with fail
   refine k1.mono ?_;rintro e w1 ⟨rfl,hw1⟩;subst hw1;clear k1;go_wp2
   go_ret
   dsimp only
   rw[Xa HD];exact(Xa H).ans 6 (Below.refl _ _)
  ·have HD:Hid (YF c s=(0,ask c 3 6 s)):=hide (by unfold YF;simp[e]);rw[e]at c7;clear e;go_enter Tryz.func53,Tryz.ntmps53
   go_wp2_with fail
   refine k1.mono ?_;rintro e w1 ⟨rfl,hw1⟩;subst hw1;clear k1;go_wp2_with fail
   refine(Xa K2).mono ?_;rintro e w2 ⟨rfl,own2,h3,u3⟩;have HR:=hide (And.intro h3 u3);clear h3 u3 K2;go_wp2
   go_ret
   dsimp only
   rw[Xa HD];exact⟨rfl,_,(Xa HR).1,(Xa HR).2⟩
  ·have HD:Hid (YF c s=(0,ask c 3 6 s)):=hide (by unfold YF;simp[e]);rw[e]at c7;clear e;go_enter Tryz.func53,Tryz.ntmps53
   go_wp2_with fail
   refine k1.mono ?_;rintro e w1 ⟨rfl,hw1⟩;subst hw1;clear k1;go_wp2_with fail
   refine(Xa K2).mono ?_;rintro e w2 ⟨rfl,own2,h3,u3⟩;have HR:=hide (And.intro h3 u3);clear h3 u3 K2;go_wp2
   go_ret
   dsimp only
   rw[Xa HD];exact⟨rfl,_,(Xa HR).1,(Xa HR).2⟩
  ·have HD:Hid (YF c s=(6,s)):=hide (by unfold YF;simp[e]);rw[e]at c7;clear e K2;go_enter Tryz.func53,Tryz.ntmps53
   go_wp2_with fail
   refine k1.mono ?_;rintro e w1 ⟨rfl,hw1⟩;subst hw1;clear k1;go_wp2
   go_ret
   dsimp only
   rw[Xa HD];exact(Xa H).ans 6 (Below.refl _ _)
  ·have HD:Hid (YF c s=(0,ask c 3 6 s)):=hide (by unfold YF;simp[e]);rw[e]at c7;clear e;go_enter Tryz.func53,Tryz.ntmps53
   go_wp2_with fail
   refine k1.mono ?_;rintro e w1 ⟨rfl,hw1⟩;subst hw1;clear k1;go_wp2_with fail
   refine(Xa K2).mono ?_;rintro e w2 ⟨rfl,own2,h3,u3⟩;have HR:=hide (And.intro h3 u3);clear h3 u3 K2;go_wp2
   go_ret
   dsimp only
   rw[Xa HD];exact⟨rfl,_,(Xa HR).1,(Xa HR).2⟩
theorem SAt.shut (h:SAt w own i b c s false ch q cm o ev qe ce oe):SAt {w with heap:=w.heap.setIfInBounds ch (.chan 0 #[] true 0 0 false)} own i b c s true ch q cm o ev qe ce oe∧Upd i own own w {w with heap:=w.heap.setIfInBounds ch (.chan 0 #[] true 0 0 false)}:=by
 have hlc:=(Array.getElem?_eq_some_iff.1 h.chan).1
 have hK:Xb (· =ch) w {w with heap:=w.heap.setIfInBounds ch (.chan 0 #[] true 0 0 false)}:=
  ⟨rfl,rfl,rfl,by simp,fun k _ hk=>by simp only;rw[Array.getElem?_setIfInBounds_ne (fun e=>hk e.symm)]⟩
 have hcb:b≠ch:=fun e=>by have:=h.head;rw[e,h.chan]at this;simp at this
 have hne:∀p,p≠0→p<5→∀k,k=ch→own k≠tg i p:=fun p hp hp5 k hk=>by rw[hk,h.ownc];exact Xz (by omega) hp5 (.inr (fun e=>hp e.symm))
 refine⟨⟨by rw[hK.block b h.lt hcb];exact h.head,h.ownb,by simp[hlc],h.ownc,h.lq.keeps hK (hne 1 (by omega) (by omega)) (fun _ _=>rfl),h.lcm.keeps hK (hne 2 (by omega) (by omega)) (fun _ _=>rfl),h.lo.keeps hK (hne 3 (by omega) (by omega)) (fun _ _=>rfl),Xc h.lev hK (fun k hb hX=>hne 4 (by omega) (by omega) k hX (h.owne k hb)),h.owne,h.ctl.keeps hK h.pos (fun e=> ?_),h.XC,fun k hs=>h.Xp k (Nat.le_trans hK.size hs),h.cok,h.sok⟩,⟨hK.mono (fun k hk=>⟨0,by omega,by rw[hk];exact h.ownc⟩),fun _ _=>rfl⟩⟩;have:=h.ownc;rw[← e,h.XC]at this;exact Xq _ _ this.symm
theorem Xol (h:SAt w own i b c s cl ch q cm o ev qe ce oe):
  Calls Tryz.prog 40 #[.pointer (some ⟨b,0,none⟩)] w fun e w'=>if cl then e=.returned (.tuple #[.slice none 0 0,.int .i64 (8:Nat)])∧w'=w else e=.returned (.tuple #[o,.int .i64 (0:Nat)])∧SAt w' own i b c {s with out:=[]} cl ch q cm (.slice none 0 0) ev qe ce []∧Lst w' own (tg i 3) o oe s.out∧Xb (· =b) w w':=by
 have hlt:=h.lt;have k1:=YE h;cases cl with
 |true=>
  have H:=hide h;clear h;go_enter Tryz.func40,Tryz.ntmps40
  go_wp2_with fail
  refine k1.mono ?_;rintro e w1 ⟨rfl,hw1⟩;subst hw1;clear k1;go_wp2
  go_ret2
  exact⟨rfl,rfl⟩
 |false=>
  have c20:=h.c_o;have fz:=h.fz;obtain⟨op,ocap,rfl,_,_⟩:=h.lo.slice;have H:=hide h;clear h;go_enter Tryz.func40,Tryz.ntmps40
  go_wp2_with fail
  refine k1.mono ?_;rintro e w1 ⟨rfl,hw1⟩;subst hw1;clear k1;go_wp2
  go_ret2
  have h:=Xa H;have hK:Xb (· =b) w1 _:=(Xb.refl _ w1).setB 20 (.slice none 0 0);exact⟨rfl,h.YL hK ((h.hd.lo _).as {s with out:=[]} rfl) XB.same XB.same XB.gone (.inl ⟨rfl,rfl⟩) (h.sok.out []),h.lo.keeps hK (fun k hk=>by rw[hk,h.ownb];exact Xz (by omega) (by omega) (.inr (by omega))) (fun _ _=>rfl),hK⟩
theorem Xjd (h:SAt w own i b c s cl ch q cm o ev qe ce oe):
  Calls Tryz.prog 48 #[.pointer (some ⟨b,0,none⟩)] w fun e w'=>if cl then e=.returned (.tuple #[.slice none 0 0,.int .i64 (8:Nat)])∧w'=w else e=.returned (.tuple #[ev,.int .i64 (0:Nat)])∧SAt w' own i b c {s with events:=[]} cl ch q cm o (.slice none 0 0) qe ce oe∧w'.ownsRow 0 3 1 ev s.events.length (s.events.map fun n=>.int .i64 (n:Nat))∧Xb (· =b) w w':=by
 have hlt:=h.lt;have k1:=YE h;cases cl with
 |true=>
  have H:=hide h;clear h;go_enter Tryz.func48,Tryz.ntmps48
  go_wp2_with fail
  refine k1.mono ?_;rintro e w1 ⟨rfl,hw1⟩;subst hw1;clear k1;go_wp2
  go_ret2
  exact⟨rfl,rfl⟩
 |false=>
  have c21:=h.XoG;have fz:=h.fz;obtain⟨op,ocap,hoe⟩:=Yk h.lev;subst hoe;have H:=hide h;clear h;go_enter Tryz.func48,Tryz.ntmps48
  go_wp2_with fail
  refine k1.mono ?_;rintro e w1 ⟨rfl,hw1⟩;subst hw1;clear k1;go_wp2
  go_ret2
  have h:=Xa H;have hK:Xb (· =b) w1 _:=(Xb.refl _ w1).setB 21 (.slice none 0 0);exact⟨rfl,h.YL hK ((h.hd.lev _).as {s with events:=[]} rfl) XB.same XB.same XB.same (.inr ⟨rfl,rfl⟩) (h.sok.events []),Xc h.lev hK (fun k hk e=>by have:=h.owne k hk;rw[e,h.ownb]at this;exact Xz (by omega) (by omega) (.inr (by omega)) this),hK⟩
theorem close_any (h:SAt w own i b c s cl ch q cm o ev qe ce oe):
  Calls Tryz.prog 59 #[.pointer (some ⟨b,0,none⟩)] w fun e w'=>if cl then e=.returned (.int .i64 (8:Nat))∧w'=w else e=.returned (.int .i64 (0:Nat))∧SAt w' own i b c s true ch q cm o ev qe ce oe∧Upd i own own w w':=by
 have hlt:=h.lt;have k1:=YE h;cases cl with
 |true=>
  have H:=hide h;clear h;go_enter Tryz.func59,Tryz.ntmps59
  go_wp2_with fail
  refine k1.mono ?_;rintro e w1 ⟨rfl,hw1⟩;subst hw1;clear k1;go_wp2
  go_ret
  exact⟨rfl,rfl⟩
 |false=>
  have c6:=h.Xmx;have hcl:=fun ats ty=>run_close_open (P:=Tryz.prog) (w:=w) ats ty h.chan
  have H:=hide h;clear h;go_enter Tryz.func59,Tryz.ntmps59
  go_wp2_with fail
  refine k1.mono ?_;rintro e w1 ⟨rfl,hw1⟩;subst hw1;clear k1;go_wp2
  go_ret
  have h:=Xa H;exact⟨rfl,h.shut⟩
end
theorem u8n {n:Nat}(h:n<256):(UInt8.ofNat n).toNat=n:=by
 have:(UInt8.ofNat n).toNat=n%256:=by simp
 rw[this,Nat.mod_eq_of_lt h]
theorem Xew (m c:Nat)(h:c%2=0):XE m c 1 9=some 1:=by
 have e:c &&& maskN m 1=Xv m 1:=by
  simp[maskN,Xv,Xa5,h]
 unfold XE;rw[if_pos e]
theorem XeF (f:Fr)(q1 q2:Option Addr)(c1 c2:Nat)(w:World)(h1:XU w q1 f.info)(h2:XU w q2 f.info):
  Calls Tryz.prog 37 #[frV f q1 c1,frV f q2 c2] w fun e w'=>e=.returned (.bool true)∧Below w.heap.size w w':=by
 unfold frV;obtain⟨a,k,p,ns,nr,l⟩:=f;have hb:∀o1 o2,Below w.heap.size w ((w.alloc o1).alloc o2):=fun o1 o2=>((Below.refl _ w).alloc (Nat.le_refl _) o1).alloc (by simp) o2
 have v1:=fun o1 o2=>(h1.below (hb o1 o2) (Nat.le_refl _)).conv c1
 have v2:=fun o1 o2=>(h2.below (hb o1 o2) (Nat.le_refl _)).conv c2
 simp only at v1 v2;clear h1 h2;have HB:=hide hb;clear hb;go_enter Tryz.func37,Tryz.ntmps37
 go_wp2
 exact bodyPost_ret (v:=.bool true) (by simp[results,Tryz.results37,go_sem]) rfl ⟨rfl,Xa HB _ _⟩
theorem XgH {T e:TypeId}{B b:Nat}{bs:List Value}{w w':World}(h:Lib.IsBuilderF T e B b bs w)(hb:Below w.heap.size w w'):Lib.IsBuilderF T e B b bs w':=by
 have key:∀p,Lib.BuilderAtF T e B b p bs w→Lib.BuilderAtF T e B b p bs w':=by
  rintro p ⟨h1,v,h2,⟨h3,h4⟩,h5⟩;refine⟨h1,v,?_,⟨h3,?_⟩,h5⟩
  ·rw[hb.block b (Array.getElem?_eq_some_iff.1 h2).1];exact h2
  ·rcases h4 with h4|⟨g,cap,cur,fz,e1,e2,e3,e4⟩
   ·exact Or.inl h4
   ·exact Or.inr ⟨g,cap,cur,fz,e1,e2,by rw[hb.block g (Array.getElem?_eq_some_iff.1 e3).1];exact e3,e4⟩
 rcases h with h|h
 ·exact Or.inl (key _ h)
 ·exact Or.inr (key _ h)
theorem Xhm (l:List Bool):Lib.strCells ⟨(txt l).toArray⟩=Lib.byteCells (txt l):=by simp[Lib.strCells,Lib.byteCells]
theorem XbJ: []++Lib.strCells ⟨#[48,49,49,49,49,49,49,48]⟩=Lib.byteCells (txt QQ):=by simp[Lib.strCells,Lib.byteCells,QQ,txt,chr]
theorem XeL (a b:List Bool):(⟨(txt a).toArray⟩++⟨(txt b).toArray⟩:ByteArray)=⟨(txt (a++b)).toArray⟩:=by
 rw[QG];apply ByteArray.ext
 show ByteArray.data (_++_)=_
 rw[ByteArray.data_append];simp
def Ju (w:World)(fb fo:Nat)(fs:List (List UInt8)):Prop:=
 ∀i,i<fs.length→∃b off cap,w.cell? ⟨fb,fo+i,none⟩=some (.slice (some ⟨b,off,none⟩) (fs.getD i []).length cap)∧b<w.heap.size∧Seg w b off (fs.getD i [])
theorem Ju.below {w w':World}{fb fo:Nat}{fs:List (List UInt8)}(h:Ju w fb fo fs){B:Nat}(hb:Below B w w')(hB:w.heap.size≤B)(hf:fb<w.heap.size):Ju w' fb fo fs:=by
 intro i hi;obtain⟨b,off,cap,h1,h2,h3⟩:=h i hi;refine⟨b,off,cap,?_,Nat.lt_of_lt_of_le h2 hb.size,h3.below hb (by omega)⟩;rw[hb.cell (p:=⟨fb,fo+i,none⟩) (by show fb<B;omega)];exact h1
theorem XkA (fb fo cap:Nat)(fs:List (List UInt8))(w:World)(hn:fs.length≤1048576)(hfb:fb<w.heap.size)(hF:Ju w fb fo fs)(hlen:∀f∈fs,2≤f.length∧f.length≤64):
  Calls Tryz.prog 29 #[.slice (some ⟨fb,fo,none⟩) fs.length cap] w fun e w'=>e=.returned (.tuple #[.string ⟨(txt (Jt fs)).toArray⟩,.int .i64 0])∧Below w.heap.size w w':=by
 go_enter Tryz.func29,Tryz.ntmps29
 go_wp2
 go_loop [11] (fun i=>∃k:Nat,k≤fs.length∧i=.int .i64 k) (fun i=>fs.length -(intOf i).toNat)
 case atStart=>exact⟨0,Nat.zero_le _,rfl⟩
 case round=>
  obtain⟨k,hk,rfl⟩:=hrel;by_cases hlt:k<fs.length
  ·obtain ⟨b,off,cap',hcell,_,_⟩:=hF k hlt;have hfl:=hlen (fs.getD k []) (by simp[List.getD,hlt]);generalize fs.getD k []=f at hcell hfl;obtain⟨hf1,hf2⟩:=hfl;have g1:¬((f.length:Int)<2):=by omega
   have g2:¬((64:Int)<(f.length:Int)):=by omega
   go_wp2
   go_round
   case rel=>exact⟨k+1,by omega,by go_num⟩
   case measure=>simp[intOf];omega
  ·go_wp2_with fail
   clear hlt;refine(QT w.heap.size w.heap.size [] ⟨#[48,49,49,49,49,49,49,48]⟩ _ (Lib.IsBuilderF.of (Lib.fresh_isBuilder 109 5 w)) (by decide) (by simp)).mono ?_;rintro e W0 ⟨rfl,h0,b0,_⟩;have hI0:Lib.IsBuilderF 109 5 w.heap.size w.heap.size (Lib.byteCells (txt QQ)) W0:=by rw[← XbJ];exact Or.inr h0
   have hb0:Below w.heap.size w W0:=((Below.refl _ w).alloc (Nat.le_refl _) _).trans b0;clear h0 b0;go_wp2
   go_loopw [27] (fun i wr=>∃(k:Nat) (acc:List Bool),k≤fs.length∧i=.int .i64 k∧Lib.IsBuilderF 109 5 w.heap.size w.heap.size (Lib.byteCells (txt acc)) wr∧Below w.heap.size w wr∧acc++Qd (fs.drop k)=Jt fs) (fun i _=>fs.length -(intOf i).toNat)
   case atStart=>exact⟨0,QQ,Nat.zero_le _,rfl,hI0,hb0,rfl⟩
   case round=>
    clear hI0 hb0;obtain⟨k,acc,hk,rfl,hI,hbw,hacc⟩:=hrel
    have hal:acc.length≤8+1064*fs.length:=by
     have h1:=congrArg List.length hacc;have h2:=Xbr fs fun f hf=>(hlen f hf).2
     simp[Jt,QQ]at h1;omega
    have HA:Hid (acc++Qd (fs.drop k)=Jt fs):=hacc;clear hacc;by_cases hlt:k<fs.length
    ·obtain ⟨b,off,cap',hcell,hbb,hseg⟩:=(hF.below hbw (Nat.le_refl _) hfb) k hlt;have hfl:=hlen (fs.getD k []) (by simp[List.getD,hlt])
     have hdrop:Hid (fs.drop k=fs.getD k []::fs.drop (k+1)):=by
      show fs.drop k=fs.getD k []::fs.drop (k+1)
      rw[List.drop_eq_getElem_cons hlt];simp[List.getD,hlt]
     generalize fs.getD k []=f at hcell hfl hseg hdrop;obtain⟨hf1,hf2⟩:=hfl;have hs0:=hbw.size;go_wp2_with fail
     refine(Xb0 b off cap' f _ (by omega) hseg hbb).mono ?_;rintro e w1 ⟨rfl,hb1⟩;have hs1:=hb1.size;go_wp2_with fail
     refine(Xfm b off cap' f _ (by unfold maxLen;omega) (hseg.below hb1 hbb)).mono ?_;rintro e w2 ⟨rfl,rfl⟩;have hb2:Below w1.heap.size w1 (w1.alloc (Xcz f)):=(Below.refl _ _).alloc (Nat.le_refl _) _;have hp2:=Xb0 w1.heap.size 0 2 (Y4 f) (w1.alloc (Xcz f)) (by rw[Jm];omega) (Xec w1 f) (by simp);rw[Jm]at hp2;have HP:=hide hp2;clear hp2;go_wp2_with fail
     refine(Xa HP).mono ?_;rintro e w3 ⟨rfl,hb3⟩;clear HP;have hcat:(txt (XH f)).length+(txt (XH (Y4 f))).length≤2000:=by rw[Y5,Y5,YD,YD,Jm];omega
     go_wp2_with fail
     clear hcat;rw[XeL];refine(Xil (XH f++XH (Y4 f)) _ (by rw[List.length_append,YD,YD,Jm];omega)).mono ?_;rintro e w4 ⟨rfl,hb4⟩;have hs3:=hb3.size;have hs4:=hb4.size;have hall:Below wr.heap.size wr w4:=(hb1.trans ((hb2.mono (by omega)).trans (hb3.mono (by simp;omega)))).trans (hb4.mono (by simp at hs3;omega));have hI4:=XgH hI hall;have hw4:Below w.heap.size w w4:=hbw.trans (hall.mono hs0);have hs5:=hw4.size;clear hb1 hb2 hb3 hb4 hs3 hs4 hall hI hbw hcell hseg;go_wp2_with fail
     refine(QT w.heap.size w.heap.size _ _ _ hI4 (by have:=Xau f;rw[Lib.byteCells_length,Y5,Xaf];unfold Jg at this;omega) hs5).mono ?_;rintro e w5 ⟨rfl,h5,b5,_⟩;have hs6:=b5.size;go_wp2_with fail
     refine(QT w.heap.size w.heap.size _ ⟨#[48,49,49,49,49,49,49,48]⟩ _ (Or.inr h5) (by have:=Xau f;rw[List.length_append,Lib.strCells_length,Lib.byteCells_length,Y5,Xaf];unfold Jg at this;show _+8≤_;omega) (by omega)).mono ?_;rintro e w6 ⟨rfl,h6,b6,_⟩;go_wp2
     go_roundw
     case rel=>
      refine⟨k+1,acc++Jg f++QQ,by omega,by go_num,?_,(hw4.trans b5).trans b6,?_⟩
      ·rw[QG,QG,Lib.byteCells_append,Lib.byteCells_append,←XbJ,List.nil_append];rw[Xhm]at h6;exact Or.inr h6
      ·rw[← HA.out,hdrop.out,Qd];simp
     case measure=>simp[intOf];omega
    ·go_wp2_with fail
     refine(Tryz.Builder_String_any_k w.heap.size w.heap.size _ _ hI (by have:=hbw.size;omega)).mono ?_;rintro e W1 ⟨rfl,_,b1,_⟩;go_wp2
     go_ret2
     have h:=HA.out;rw[List.drop_eq_nil_of_le (by omega),Qd,List.append_nil]at h;rw[← h];exact⟨rfl,hbw.trans b1⟩
theorem Xkz (p:Option Addr)(cap:Nat)(w:World):
  Calls Tryz.prog 29 #[.slice p 0 cap] w fun e w'=>e=.returned (.tuple #[.string ⟨(txt (Jt [])).toArray⟩,.int .i64 0])∧Below w.heap.size w w':=by
 go_enter Tryz.func29,Tryz.ntmps29
 go_wp2
 go_loop [11] (fun i=>i=.int .i64 0) (fun _=>0)
 case atStart=>rfl
 case round=>
  subst hrel;go_wp2_with fail
  refine(QT w.heap.size w.heap.size [] ⟨#[48,49,49,49,49,49,49,48]⟩ _ (Lib.IsBuilderF.of (Lib.fresh_isBuilder 109 5 w)) (by decide) (by simp)).mono ?_;rintro e W0 ⟨rfl,h0,b0,_⟩;have hI0:Lib.IsBuilderF 109 5 w.heap.size w.heap.size (Lib.byteCells (txt QQ)) W0:=by rw[← XbJ];exact Or.inr h0
  have hb0:Below w.heap.size w W0:=((Below.refl _ w).alloc (Nat.le_refl _) _).trans b0;clear h0 b0;go_wp2
  go_loop [27] (fun i=>i=.int .i64 0) (fun _=>0)
  case atStart=>rfl
  case round=>
   subst hrel;go_wp2_with fail
   refine(Tryz.Builder_String_any_k w.heap.size w.heap.size _ _ hI0 (by have:=hb0.size;omega)).mono ?_;rintro e W1 ⟨rfl,_,b1,_⟩;go_wp2
   go_ret2
   exact⟨rfl,hb0.trans b1⟩
theorem XjP (m k cb:Nat)(p:Option Addr)(n c:Nat)(w:World)(hk:1≤k)(hcb:cbN m k=cb)(hn:1+cb≤n)(hi:Yc m k (n -(1+cb):Nat)=false)(h63:n≤9223372036854775807)
  (hK:∀o,Calls Tryz.prog 83 #[.int .i64 m,.slice p n c] (w.alloc o) fun r w'=>r=.returned (.tuple #[.int .i64 (k:Nat),.int .i64 0])∧∃n,w'=(w.drewN n).alloc o):
  Calls Tryz.prog 35 #[.int .i64 m,.slice p n c] w fun r w'=>r=.returned (.tuple #[frZ,.int .i64 5])∧Below w.heap.size w w':=by
 have c1:=fun w=>ZX m k hk w
 have c2:=fun w=>QY m k (n -(1+cb):Nat) w
 rw[hcb]at c1;rw[hi]at c2;have hlt:¬((n:Int)<1+(cb:Int)):=by omega
 have hsub:((n -(1+cb):Nat):Int)=(n:Int) -(1+(cb:Int)):=by omega
 rw[hsub]at c2;clear hi hsub hcb;have HK:=hide hK;clear hK;go_enter Tryz.func35,Tryz.ntmps35
 go_wp2_with fail
 refine(Xa HK _).mono ?_;clear HK;rintro r W1 ⟨rfl,nd,rfl⟩;obtain⟨W0,hW0⟩:∃W0,W0=w.drewN nd:=⟨_,rfl⟩;have hb0:Below w.heap.size w W0:=by rw[hW0];exact below_drewN (Below.refl w.heap.size w) _
 have hs0:w.heap.size=W0.heap.size:=by rw[hW0];rfl
 rw[← hW0,hs0];clear hW0;go_wp2_with fail
 refine(c1 _).mono ?_;rintro r W1 ⟨rfl,rfl⟩;go_wp2_with fail
 refine(c2 _).mono ?_;rintro r W1 ⟨rfl,rfl⟩;go_wp2
 exact bodyPost_ret (v:=.tuple #[frZ,.int .i64 5]) (by simp[results,Tryz.results35,go_sem,frZ]) rfl ⟨rfl,hb0.alloc (by omega) _⟩
theorem Xlt (m:Int)(p:Option Addr)(c:Nat)(l:List UInt8)(w:World)(hsrc:XU w p l)(hC:Ctl w)(hs:0<w.heap.size)(hc:l.length≤c)(hc63:c≤9223372036854775807):
  Calls Tryz.prog 35 #[.int .i64 m,.slice p l.length c] w fun e w'=>∃q cp,e=.returned (.tuple #[.agg #[.int .i64 (Xi m l).2.a,.int .i64 (Xi m l).2.k,.bool (Xi m l).2.p,.int .i64 (Xi m l).2.ns,.int .i64 (Xi m l).2.nr,.slice q (Xi m l).2.info.length cp],.int .i64 ((Xi m l).1:Nat)])∧w'.ownsRow w.heap.size 5 1 (.slice q (Xi m l).2.info.length cp) (Xi m l).2.info.length (Lib.byteCells (Xi m l).2.info)∧((Xi m l).1≠0→q=none)∧Below w.heap.size w w':=by
 have hK:∀o,Calls Tryz.prog 83 #[.int .i64 m,.slice p l.length c] (w.alloc o) fun e w'=>e=.returned (.tuple #[.int .i64 ((XK m l).1:Nat),.int .i64 ((XK m l).2:Nat)])∧∃n,w'=(w.drewN n).alloc o:=fun o=>
  Xcu m p c l (w.alloc o) (hsrc.below ((Below.refl _ w).alloc (Nat.le_refl _) o) (Nat.le_refl _)) (hC.below ((Below.refl _ w).alloc (Nat.le_refl _) o) hs)
 have fin:∀(e:Nat),e≠0→Xi m l=(e,ZK)→(Calls Tryz.prog 35 #[.int .i64 m,.slice p l.length c] w fun r w'=>r=.returned (.tuple #[frZ,.int .i64 (e:Nat)])∧Below w.heap.size w w')→Calls Tryz.prog 35 #[.int .i64 m,.slice p l.length c] w fun e w'=>∃q cp,e=.returned (.tuple #[.agg #[.int .i64 (Xi m l).2.a,.int .i64 (Xi m l).2.k,.bool (Xi m l).2.p,.int .i64 (Xi m l).2.ns,.int .i64 (Xi m l).2.nr,.slice q (Xi m l).2.info.length cp],.int .i64 ((Xi m l).1:Nat)])∧w'.ownsRow w.heap.size 5 1 (.slice q (Xi m l).2.info.length cp) (Xi m l).2.info.length (Lib.byteCells (Xi m l).2.info)∧((Xi m l).1≠0→q=none)∧Below w.heap.size w w':=by
  intro e _ he hcall;rw[he];refine hcall.mono ?_;rintro r w' ⟨rfl,hb⟩;exact⟨none,0,rfl,World.ownsRow_nil _ _ _ _,fun _=>rfl,hb⟩
 by_cases h2:(XK m l).2=0
 ·obtain ⟨m',k,x,y,r,rfl,hm',rfl,hk,hk1,hk9⟩:=XgK h2;rw[hk,h2]at hK;have hcb1:cbN m' k=1∨cbN m' k=2:=by unfold cbN;split <;> simp
  by_cases hsh:(x::y::r).length<1+cbN m' k
  ·have hr:r=[]:=List.eq_nil_of_length_eq_zero (by simp at hsh;omega);subst hr;have hcb:cbN m' k=2:=by simp at hsh;omega
   refine fin 2 (by omega) ?_ (read_short m' k _ p c w (by simp) hk1 hcb hK);simp[Xi,h2,hk,hcb]
  ·by_cases hi:Yc m' k ((x::y::r).length -(1+cbN m' k):Nat)=false
   ·refine fin 5 (by omega) ?_ (XjP m' k _ p _ c w hk1 rfl (by omega) hi (by omega) hK);unfold Xi;simp only[h2,hk,Int.toNat_natCast];rw[if_neg (by simp),if_neg hsh,if_pos hi]
   ·have hi':Yc m' k ((y::r).length-cbN m' k:Nat)=true:=by
     have e:(y::r).length-cbN m' k=(x::y::r).length -(1+cbN m' k):=by simp;omega
     rw[e];exact eq_true_of_ne_false hi
    have hrd:Xi m' (x::y::r)=(0,{XY m' k (y::r)with a:=x.toNat,info:=(y::r).drop (cbN m' k)}):=by
     unfold Xi;simp only[h2,hk,Int.toNat_natCast];rw[if_neg (by simp),if_neg hsh,if_neg hi];have e1:(x::y::r).drop (1+cbN m' k)=(y::r).drop (cbN m' k):=by rw[Nat.add_comm];rfl
     rw[e1];rfl
    have hr64:(y::r).length≤1048576:=by
     unfold Yc JE at hi';split at hi'
     ·have:=of_decide_eq_true hi';omega
     ·split at hi'
      ·have:=eq_of_beq hi';split at this <;> omega
      ·have:=eq_of_beq hi';omega
    rcases hsrc with⟨_,h0⟩|⟨b,off,rfl,hb,hseg⟩
    ·simp at h0
    ·rw[hrd];have e2:((y::r).drop (cbN m' k)).length=(y::r).length-cbN m' k:=List.length_drop;have e3:=Xgb m' k (y::r);simp only[e2,e3];refine(XiP m' k _ b off c _ x (y::r) w hm' hk1 hk9 rfl (by simp at hsh ⊢;omega) hi' hr64 (by simpa using hc) hc63 hseg hb (by simp) hK).mono ?_;rintro e w' ⟨q,cp,rfl,hown,hbl⟩;exact⟨q,cp,rfl,hown,fun h=>absurd rfl h,hbl⟩
 ·refine fin _ h2 ?_ (Xfj m _ (XK m l).2 w h2 ?_)
  ·simp[Xi,h2]
  ·rw[XdY h2]at hK;exact hK
section
variable {w W:World}{own:Nat→Nat}{i b:Nat}{c:Cfg}{s:St}{cl:Bool}{ch:Nat}{q cm o ev:Value}{qe ce oe:List Value}
theorem XkZ (h:SAt w own i b c s cl ch q cm o ev qe ce oe)(p:Option Addr)(cp:Nat)(l:List UInt8)(hsrc:XU w p l)(hcp:l.length≤cp)(hc63:cp≤9223372036854775807)(hvm:ahead c s s.vm≤s.queue.length)(hl:s.out.length+18≤2199023255552)(hl2:s.events.length+2≤2199023255552):
  Calls Tryz.prog 93 #[.pointer (some ⟨b,0,none⟩),.slice p l.length cp] w fun e w'=>Ans (if cl then 8 else(Yy c l s).1) i b c (if cl then s else(Yy c l s).2) cl own w e w':=by
 have hlt:=h.lt;have k1:=YE h;cases cl with
 |true=>
  have H:=hide h;clear h;go_enter Tryz.func93,Tryz.ntmps93
  go_wp2_with fail
  refine k1.mono ?_;rintro e w1 ⟨rfl,hw1⟩;subst hw1;clear k1;go_wp2
  go_ret
  exact(Xa H).ans 8 (Below.refl _ _)
 |false=>
  have c0:=h.c_m;have hk2:=fun V (hV:Below w.heap.size w V)=>Xlt (c.m:Int) p cp l V (hsrc.below hV (Nat.le_refl _)) (h.ctl.below hV h.pos) (Nat.lt_of_lt_of_le h.pos hV.size) hcp hc63
  have K2:=hide hk2;have H:=hide h;clear h hk2 hsrc;go_enter Tryz.func93,Tryz.ntmps93
  go_wp2_with fail
  refine k1.mono ?_;rintro e w1 ⟨rfl,hw1⟩;subst hw1;clear k1;go_wp2_with fail
  refine(Xa K2 _ (Below.refl _ _)).mono ?_;rintro e w2 ⟨fq,fcp,rfl,hrow,_,hb⟩;have hm:=(Xa H).cok.m;obtain⟨nr,hnr1,hnr2⟩:=Xa0 c.m hm l;have hdef:Yy c l s=if(Xi c.m l).1≠0 then((Xi c.m l).1,s)else(0,if Zf c (Xi c.m l).2 then Yr c (Xi c.m l).2 s else s):=rfl
  generalize (Xi c.m l).1=er at*;generalize (Xi c.m l).2=f at*;obtain⟨fa,fk,fp,ns,fnr,info⟩:=f;simp only at hnr1 hrow hdef⊢;subst hnr1;have hrow0:=Xw hrow (Nat.zero_le _)
  have hfree:∀k,(Value.slice fq info.length fcp).ownBlock=some k→own k=0∧k≠0:=fun k hk=>by
   have h1:=World.ownsRow.lt hrow k hk;exact⟨(Xa H).Xp k h1.1,by have:=(Xa H).pos;omega⟩
  have hTnew:∀k,(Value.slice fq info.length fcp).ownBlock=some k→w1.heap.size≤k:=fun k hk=>(World.ownsRow.lt hrow k hk).1
  have h2:=(Xa H).later hb;have k3:=fun V (hV:Below w2.heap.size w2 V)=>Xe4 (h2.later hV) ⟨fa,fk,fp,ns,(nr:Nat),info⟩ fq fcp
  have k4:=fun V (hV:Below w2.heap.size w2 V)=>XbZ (h2.later hV) fa fk fp ns nr info fq fcp hnr2 hvm (Xc hrow0 (Xb.of (X:=fun _=>False) hV) (fun _ _=>id)) hfree hl hl2
  unfold frV at k3 k4;simp only at k3 k4;generalize hx:Zf c ⟨fa,fk,fp,ns,(nr:Nat),info⟩=x at k3 hdef;have K3:=hide k3;have K4:=hide k4;have HD:=hide hdef;have HB:=hide hb;have HT:=hide hTnew;clear h2 k3 k4 hdef hb hx hTnew hfree hrow0 hrow K2 hm;by_cases he:er=0
  ·subst he;have HD1:=hide ((Xa HD).trans (if_neg (by simp)));clear HD;cases x with
   |true=>
    have HD2:=hide ((Xa HD1).trans (congrArg (fun y=>((0:Nat),y)) (if_pos rfl)));clear HD1;go_wp2_with fail
    refine(Xa K3 _ ?_).mono ?_
    ·exact (Below.refl _ w2).alloc (Nat.le_refl _) _
    rintro e w3 ⟨rfl,hb3⟩;obtain⟨y0,y1,y2,y3,y4,y5⟩:=Xt (Xc9 hb3);have HB3:=hide (((Below.refl _ w2).alloc (Nat.le_refl _) _).trans (hb3.mono (by simp)));clear hb3 K3;go_wp2_with fail
    refine(Xa K4 _ (Xa HB3)).mono ?_;rintro e w4 ⟨rfl,own4,h4,u4⟩;have HR:=hide (And.intro h4 (Zv.new (w:=w1) ((Xa HB).trans ((Xa HB3).mono (Xa HB).size)) u4 (Xa HT)));clear h4 u4 K4 HB3;go_wp2
    go_ret
    dsimp only
    rw[Xa HD2];exact⟨rfl,own4,(Xa HR).1,(Xa HR).2⟩
   |false=>
    have HD2:=hide ((Xa HD1).trans (congrArg (fun y=>((0:Nat),y)) (if_neg (by simp))));clear HD1;go_wp2_with fail
    refine(Xa K3 _ ?_).mono ?_
    ·exact (Below.refl _ w2).alloc (Nat.le_refl _) _
    rintro e w3 ⟨rfl,hb3⟩;have HB3:=hide (((Below.refl _ w2).alloc (Nat.le_refl _) _).trans (hb3.mono (by simp)));clear hb3 K3;go_wp2
    go_ret
    dsimp only
    rw[Xa HD2];exact(Xa H).ans 0 ((Xa HB).trans ((Xa HB3).mono (Xa HB).size))
  ·have HD2:=hide ((Xa HD).trans (if_pos he));have te:((er:Int)==0)=false:=by simp;omega
   have te2:((er:Int) != 0)=true:=by simp;omega
   clear HD he;go_wp2
   go_ret
   dsimp only
   rw[Xa HD2];exact(Xa H).ans er ((Xa HB).trans (((Below.refl _ w2).alloc (Nat.le_refl _) _).mono (Xa HB).size))
end
end Go.Proofs.YtkalonhalhdlaaaGreatDoor
namespace Go.Proofs.YtkalonhalhdlaaaGreatDoor
open Go
theorem Xhy (m:Int)(f:Fr):(XT m f).2.length≤64:=by
 unfold XT;split
 ·simp
 ·split
  ·simp
  ·split
   ·simp
   ·rename_i h
    have h':Yc m f.k f.info.length=true:=by simpa using h
    have hl:f.info.length≤32:=by
     unfold Yc JE at h';split at h'
     ·have:=of_decide_eq_true h';omega
     ·split at h'
      ·have:=eq_of_beq h';split at this <;> omega
      ·have:=eq_of_beq h';omega
    have hc:(Yo m.toNat f.k.toNat f.ns.toNat f.nr.toNat f.p).length≤2:=by unfold Yo;split <;> simp
    simp only[List.length_cons,List.length_append];omega
def Xo (a e:Nat)(s s':St):Prop:=(∃ x,s'.out=s.out++x∧x.length≤a∧∀m∈x,m.length≤64)∧∃y,s'.events=s.events++y∧y.length≤e
section
variable {c:Cfg}{s t u:St}{a e a' e':Nat}
theorem Xo.same (h1:t.out=s.out)(h2:t.events=s.events):Xo a e s t:=⟨⟨[],by simp[h1],by simp,by simp⟩,[],by simp[h2],by simp⟩
theorem Xo.trans (h:Xo a e s t)(k:Xo a' e' t u):Xo (a+a') (e+e') s u:=by
 obtain⟨⟨x,x1,x2,x3⟩,y,y1,y2⟩:=h;obtain⟨⟨x',z1,z2,z3⟩,y',w1,w2⟩:=k;refine⟨⟨x++x',by rw[z1,x1,List.append_assoc],by simp;omega,fun m hm=> ?_⟩,y++y',by rw[w1,y1,List.append_assoc],by simp;omega⟩;rcases List.mem_append.1 hm with hm|hm
 ·exact x3 m hm
 ·exact z3 m hm
theorem Xo.mono (h:Xo a e s t)(h1:a≤a')(h2:e≤e'):Xo a' e' s t:=by
 obtain⟨⟨x,x1,x2,x3⟩,y,y1,y2⟩:=h;exact⟨⟨x,x1,by omega,x3⟩,y,y1,by omega⟩
theorem Xo.of (h:Xo a e t u)(h1:t.out=s.out)(h2:t.events=s.events):Xo a e s u:=by
 obtain⟨⟨x,x1,x2,x3⟩,y,y1,y2⟩:=h;exact⟨⟨x,by rw[x1,h1],x2,x3⟩,y,by rw[y1,h2],y2⟩
theorem Xfi (f:Fr):Xo 1 0 s (put c f s):=⟨⟨[_],rfl,by simp,fun m hm=>by simp at hm;rw[hm];exact Xhy _ _⟩,[],by simp[put],by simp⟩
theorem Jc (f:Fr):Xo 1 0 s (Za c f s):=Xfi _
theorem XaL (f:Fr):Xo 1 0 s (QD c f s):=Xfi _
theorem QU (p:Bool):Xo 1 0 s (answer c p s):=XaL _
theorem Zr (k:Nat)(p:Bool):Xo 1 0 s (Yj c k p s):=XaL _
theorem Xcv (p:Bool):Xo 1 0 s (report c p s):=XaL _
theorem XaM (n:Nat):Xo 0 1 s (tell n s):=⟨⟨[],by simp[tell],by simp,by simp⟩,[n],rfl,by simp⟩
theorem Xcc (k kd:Nat):Xo 1 0 s (ask c k kd s):=Xo.of (Jc _) rfl rfl
theorem QX (n:Nat):Xo 0 1 s (Zi n s):=Xo.of (XaM _) rfl rfl
theorem Xch (n:Nat):Xo 0 1 s (Xap n s):=Xo.of (XaM _) rfl rfl
theorem Xcb (p:Bool)(n:Nat):Xo 1 1 s (accept c p n s):=(Xch n).trans (Zr _ _)
theorem XhA (p:Bool):Xo 1 1 s (agree c p s):=(Zr _ _).trans (QX _)
theorem XeG:Xo 1 0 s (XF c s):=by
 unfold XF JZ;split
 ·exact (Jc (c:=c) ⟨0,1,false,s.vs,s.vr,s.queue.getD (ahead c s s.vs) []⟩).trans (a':=0) (e':=0) (Xo.same rfl rfl)
 ·exact (Jc (c:=c) ⟨0,1,false,s.vs,s.vr,s.queue.getD (ahead c s s.vs) []⟩).trans (a':=0) (e':=0) (Xo.same rfl rfl)
theorem Xh7 (n:Nat):∀s:St,Xo n 0 s (YT c n s):=by
 induction n with
 |zero=>exact fun s=>Xo.same rfl rfl
 |succ n ih=>
  intro s;unfold YT;split
  ·exact ((XeG).trans (ih _)).mono (by omega) (by omega)
  ·exact Xo.same rfl rfl
theorem XeK:Xo 0 0 s (XV c s):=by
 unfold XV;split
 ·exact Xo.same rfl rfl
 ·split <;> exact Xo.same rfl rfl
theorem Xd5:Xo 16 0 s (pump c s):=by
 unfold pump;split
 ·exact Xo.same rfl rfl
 ·exact (Xh7 16 s).trans XeK
theorem Xax (nr:Nat):Xo 0 0 s (Xe c nr s):=by
 unfold Xe;split <;> exact Xo.same rfl rfl
theorem XdJ (f:Fr):Xo 1 1 s (Zo c f s):=by
 unfold Zo;exact Xo.of ((Xcv (c:=c) (X8 c f&&f.p)).trans (XaM 2)) rfl rfl
theorem XdR (f:Fr):Xo 1 0 s (Xn c f s):=by
 unfold Xn;dsimp only
 split
 ·exact Xo.same rfl rfl
 ·split
  ·exact Xo.of (QU _) rfl rfl
  ·split <;> exact Xo.same rfl rfl
theorem Xft (f:Fr):Xo 1 0 s (Ym c f s):=by
 unfold Ym;split
 ·exact QU _
 ·split
  ·exact Xo.of (QU _) rfl rfl
  ·split
   ·exact Xo.of (XaL _) rfl rfl
   ·split
    ·exact QU _
    ·exact Xo.same rfl rfl
theorem Xfu (f:Fr):Xo 17 1 s (YO c f s):=by
 unfold YO;split
 ·exact (XdJ f).mono (by omega) (by omega)
 ·refine Xo.mono (Xo.trans (a:=1) (e:=0) ?_ Xd5) (by omega) (by omega);split
  ·exact ((Xax _).trans (Xft f)).mono (by omega) (by omega)
  ·exact ((Xax _).trans (XdR f)).mono (by omega) (by omega)
theorem Xcl (f:Fr):Xo 17 1 s (Zu c f s):=by
 unfold Zu;split
 ·exact (Xcb _ _).mono (by omega) (by omega)
 ·split
  ·exact (XhA _).mono (by omega) (by omega)
  ·split
   ·exact (QX _).mono (by omega) (by omega)
   ·split
    ·exact ((XaM 2).trans (Xcc (c:=c) 1 5)).mono (by omega) (by omega)
    ·split
     ·exact Xfu f
     ·exact Xo.same rfl rfl
theorem XdO (f:Fr):Xo 17 1 s (Yr c f s):=by
 unfold Yr;split
 ·unfold Zw;split
  ·exact (Xcb _ _).mono (by omega) (by omega)
  ·split
   ·exact (Zr _ _).mono (by omega) (by omega)
   ·split
    ·split
     ·exact (Zr _ _).mono (by omega) (by omega)
     ·exact Xo.same rfl rfl
    ·exact Xo.same rfl rfl
 ·split
  ·unfold YM;split
   ·exact (Zr _ _).mono (by omega) (by omega)
   ·split
    ·exact (Zr _ _).mono (by omega) (by omega)
    ·split
     ·exact (Xch _).mono (by omega) (by omega)
     ·split
      ·exact (QX _).mono (by omega) (by omega)
      ·exact Xo.same rfl rfl
  ·split
   ·exact Xcl f
   ·split
    ·unfold YN;split
     ·exact (Zr _ _).mono (by omega) (by omega)
     ·split
      ·exact (Zr _ _).mono (by omega) (by omega)
      ·split
       ·split
        ·exact (QX _).mono (by omega) (by omega)
        ·exact Xo.same rfl rfl
       ·exact Xo.same rfl rfl
    ·split
     ·unfold Y3;split
      ·exact Xcl f
      ·split
       ·split
        ·exact (Xcv _).mono (by omega) (by omega)
        ·exact Xo.same rfl rfl
       ·exact Xo.same rfl rfl
     ·exact Xo.same rfl rfl
theorem XcY (b:Msg):Xo 18 2 s (Yy c b s).2:=by
 unfold Yy;split
 ·exact Xo.same rfl rfl
 ·split
  ·exact (XdO _).mono (by omega) (by omega)
  ·exact Xo.same rfl rfl
theorem Xii (b:Msg):Xo 18 2 s (Qa c b s).2:=by
 unfold Qa;split
 ·exact Xo.same rfl rfl
 ·split
  ·exact Xo.same rfl rfl
  ·split
   ·exact Xo.same rfl rfl
   ·exact Xo.of (Xd5.mono (by omega) (by omega)) rfl rfl
theorem Xcg (was:Bool):Xo 1 0 s (change c was s):=by
 unfold change;split
 ·exact QU _
 ·exact Xo.same rfl rfl
theorem XhC (on:Bool):Xo 18 2 s (Qz c on s):=Xo.of ((Xcg _).mono (by omega) (by omega)) rfl rfl
theorem Xhn:Xo 18 2 s (ZL c s):=Xo.of ((Xcg _).mono (by omega) (by omega)) rfl rfl
theorem Xhc:Xo 1 1 s (Zd c s):=by
 unfold Zd;split
 ·exact (QX _).mono (by omega) (by omega)
 ·split
  ·exact Xo.of ((Jc _).mono (by omega) (by omega)) rfl rfl
  ·split
   ·exact Xo.of ((Jc _).mono (by omega) (by omega)) rfl rfl
   ·split
    ·exact Xo.of ((Jc _).mono (by omega) (by omega)) rfl rfl
    ·exact Xo.same rfl rfl
theorem Xiw:Xo 18 2 s (Jd c s):=by
 unfold Jd;split
 ·exact Xo.same rfl rfl
 ·split
  ·exact Xo.of (Xhc.mono (by omega) (by omega)) rfl rfl
  ·exact Xo.same rfl rfl
end
def Xga:Msg→Nat
 |_::c::_=>c.toNat
 |_=>1
def kI (b:Msg):Bool:=decide (Xga b%2=0)
def kU (b:Msg):Bool:=decide (Xga b%4=3)
def kR (b:Msg):Bool:=decide (Xga b%16=9)
def nxt (lu:Bool)(b:Msg):Bool:=if kU b then true else if kI b then false else lu
def hit (lu:Bool)(b:Msg):Nat:=if kI b&&lu then 1 else 0
def XaI:Bool→List Msg→Bool
 |lu,[]=>lu
 |lu,b::r=>XaI (nxt lu b) r
def aft:Bool→List Msg→Nat
 |_,[]=>0
 |lu,b::r=>hit lu b+aft (nxt lu b) r
theorem XaQ (lu:Bool)(b:Msg)(r:List Msg):aft lu (b::r)=hit lu b+aft (nxt lu b) r:=rfl
def Jf (L:List Msg):Nat:=L.countP kR
theorem Xjq {b:Msg}(h:kU b=true):kI b=false:=by
 unfold kU at h;unfold kI;have:=of_decide_eq_true h;exact decide_eq_false (by omega)
theorem XbO (lu:Bool)(L:List Msg)(b:Msg):XaI lu (L++[b])=nxt (XaI lu L) b:=by
 induction L generalizing lu with
 |nil=>rfl
 |cons x r ih=>exact ih _
theorem XbD (lu:Bool)(L:List Msg)(b:Msg):aft lu (L++[b])=aft lu L+hit (XaI lu L) b:=by
 induction L generalizing lu with
 |nil=>show hit lu b+0=0+hit lu b;omega
 |cons x r ih=>show hit lu x+aft (nxt lu x) (r++[b])=hit lu x+aft (nxt lu x) r+hit (XaI (nxt lu x) r) b;rw[ih];omega
theorem XoM (lu:Bool)(b:Msg):hit lu b≤1:=by unfold hit;split <;> omega
theorem XfY (L:List Msg):aft false L≤aft true L∧aft true L≤aft false L+1:=by
 induction L with
 |nil=>exact⟨Nat.le_refl _,Nat.zero_le _⟩
 |cons b r ih=>
  rw[XaQ,XaQ];by_cases hu:kU b=true
  ·have hi:=Xjq hu;simp[nxt,hit,hu,hi]
  ·by_cases hi:kI b=true
   ·simp[nxt,hit,hu,hi];omega
   ·simp[nxt,hit,hu,hi];exact ih
theorem XnU {M L:List Msg}(h:M.Sublist L):∀lu,aft lu M≤aft lu L:=by
 induction h with
 |slnil=>exact fun _=>Nat.le_refl _
 | @cons M L b _ ih=>
  intro lu;rw[XaQ];by_cases hu:kU b=true
  ·have hi:=Xjq hu;have h1:=ih true;have h2:=XfY M;cases lu <;> simp[nxt,hit,hu,hi] <;> omega
  ·by_cases hi:kI b=true
   ·have h1:=ih false;have h2:=XfY M;cases lu <;> simp[nxt,hit,hu,hi] <;> omega
   ·simp[nxt,hit,hu,hi];exact ih lu
 | @cons_cons M L b _ ih=>
  intro lu;rw[XaQ,XaQ];have:=ih (nxt lu b);omega
theorem Xbg (L:List Msg)(b:Msg):Jf (L++[b])=Jf L+if kR b then 1 else 0:=by
 unfold Jf;rw[List.countP_append];simp[List.countP_cons]
theorem Jo (m:Int)(f:Fr):(f.k=1→kU (XT m f).2=false∧kR (XT m f).2=false)∧(f.k=2∨f.k=3→kI (XT m f).2=false∧kU (XT m f).2=false∧kR (XT m f).2=false)∧
  (f.k=4→kI (XT m f).2=false∧kU (XT m f).2=false)∧(5≤f.k→kI (XT m f).2=false∧kR (XT m f).2=false):=by
 have hnil:kI []=false∧kU []=false∧kR []=false:=by decide
 unfold XT;split
 ·exact ⟨fun _=>hnil.2,fun _=>hnil,fun _=>⟨hnil.1,hnil.2.1⟩,fun _=>⟨hnil.1,hnil.2.2⟩⟩
 ·rename_i hok
  split
  ·exact ⟨fun _=>hnil.2,fun _=>hnil,fun _=>⟨hnil.1,hnil.2.1⟩,fun _=>⟨hnil.1,hnil.2.2⟩⟩
  ·split
   ·exact ⟨fun _=>hnil.2,fun _=>hnil,fun _=>⟨hnil.1,hnil.2.1⟩,fun _=>⟨hnil.1,hnil.2.2⟩⟩
   ·simp only[Bool.not_eq_false,Bool.and_eq_true]at hok;obtain⟨⟨⟨hm,hk⟩,hns⟩,hnr⟩:=hok;obtain⟨a,k,p,ns,nr,info⟩:=f;simp only at hk hns hnr⊢
    have hm':m=8∨m=128:=by
     unfold XP at hm;simpa using hm
    have hk':1≤k∧k≤9:=by
     unfold Zt at hk;simpa using hk
    have hns0:k≠1→ns.toNat=0:=fun h1=>by
     unfold XX X9 at hns;simp[h1]at hns;simp[hns]
    have hnr0:5≤k→nr.toNat=0:=fun h1=>by
     unfold XX XJ at hnr;have:¬k≤4:=by omega
     simp[this]at hnr;simp[hnr]
    have key:∃x t,UInt8.ofNat a.toNat::(Yo m.toNat k.toNat ns.toNat nr.toNat p++info)=UInt8.ofNat a.toNat::UInt8.ofNat x::t∧∃q r,x=Xv m.toNat k.toNat+2*ns.toNat+16*q+32*r∧(5≤k→r=0):=by
     unfold Yo;split
     ·exact ⟨_,_,rfl,0,0,by omega,fun _=>rfl⟩
     ·refine ⟨_,_,rfl,X3 p 1,nr.toNat,?_,hnr0⟩;unfold X3;split <;> omega
    obtain⟨x,t,e,q,r,hx,hr⟩:=key;rw[e]
    have hc:Xga (UInt8.ofNat a.toNat::UInt8.ofNat x::t)=x%256:=by
     show(UInt8.ofNat x).toNat=_
     simp
    unfold kI kU kR;rw[hc];refine⟨fun h=> ?_,fun h=> ?_,fun h=> ?_,fun h=> ?_⟩
    ·subst h;have:Xv m.toNat (1:Int).toNat=0:=by rcases hm' with rfl|rfl <;> rfl
     rw[this]at hx;exact⟨decide_eq_false (by omega),decide_eq_false (by omega)⟩
    ·have hn:=hns0 (by omega);rcases h with rfl|rfl
     ·have:Xv m.toNat (2:Int).toNat=1:=by rcases hm' with rfl|rfl <;> rfl
      rw[this,hn]at hx;exact⟨decide_eq_false (by omega),decide_eq_false (by omega),decide_eq_false (by omega)⟩
     ·have:Xv m.toNat (3:Int).toNat=5:=by rcases hm' with rfl|rfl <;> rfl
      rw[this,hn]at hx;exact⟨decide_eq_false (by omega),decide_eq_false (by omega),decide_eq_false (by omega)⟩
    ·have hn:=hns0 (by omega);subst h;have:Xv m.toNat (4:Int).toNat=9:=by rcases hm' with rfl|rfl <;> rfl
     rw[this,hn]at hx;exact⟨decide_eq_false (by omega),decide_eq_false (by omega)⟩
    ·have hn:=hns0 (by omega);have hr0:=hr h
     have hb:Xv m.toNat k.toNat%4=3:=by
      have:k=5∨k=6∨k=7∨k=8∨k=9:=by omega
      rcases hm' with rfl|rfl <;> rcases this with rfl|rfl|rfl|rfl|rfl <;> rfl
     rw[hn]at hx;exact⟨decide_eq_false (by omega),decide_eq_false (by omega)⟩
theorem XhV {m c k n r:Nat}(h:XE m c k n=some r):c &&& maskN m r=Xv m r:=by
 induction n generalizing k with
 |zero=>simp[XE]at h
 |succ n ih=>
  unfold XE at h;split at h
  ·rename_i hh;simp at h;subst h;exact hh
  ·exact ih h
theorem XjQ (m:Int)(b:Msg)(h0:(Xi m b).1=0):((Xi m b).2.k=1→kI b=true)∧((Xi m b).2.k=4→kR b=true)∧(5≤(Xi m b).2.k→kU b=true):=by
 have hk0:(XK m b).2=0:=by
  unfold Xi at h0;simp only at h0;split at h0
  ·rename_i h1;exact absurd h0 h1
  ·rename_i h1;simpa using h1
 have hk:(Xi m b).2.k=(XK m b).1:=by
  unfold Xi at h0⊢;simp only[hk0]at h0⊢;simp only[ne_eq,not_true_eq_false,if_false]at h0⊢;split at h0
  ·simp at h0
  ·rename_i h1
   rw[if_neg h1];split at h0
   ·simp at h0
   ·rename_i h2
    rw[if_neg h2];unfold XY;dsimp only
    split
    ·rfl
    ·split <;> rfl
 rw[hk];unfold XK at hk0⊢;split at hk0
 ·simp at hk0
 rename_i hm
 rw[if_neg hm]
 have hm':m=8∨m=128:=by
  unfold XP at hm;by_cases h8:m=8
  ·exact .inl h8
  ·simp[h8]at hm;exact .inr hm
 match b,hk0 with
 | [],hk0=>simp at hk0
 | [a],hk0=>simp at hk0;split at hk0 <;> simp at hk0
 |a::c::t,hk0=>
  simp only at hk0⊢;split at hk0
  ·simp at hk0
  rename_i ha
  rw[if_neg ha];split at hk0
  ·rename_i k hkf
   have hr:=Jr hkf;have hat:=XhV hkf;simp only;have hc:Xga (a::c::t)=c.toNat:=rfl;unfold kI kR kU;rw[hc];generalize c.toNat=c at*;have hmod:∀n,(c &&& maskN m.toNat k)%2 ^ n=(c%2 ^ n) &&& (maskN m.toNat k%2 ^ n):=fun n=>Nat.and_mod_two_pow
   have h15:∀x,x<16→x &&& 15=x:=by decide
   have h3:∀x,x<4→x &&& 3=x:=by decide
   refine⟨fun h=>decide_eq_true ?_,fun h=>decide_eq_true ?_,fun h=>decide_eq_true ?_⟩
   ·have h':k=1:=by omega
    subst h';have e1:maskN m.toNat 1=1:=rfl;have e2:Xv m.toNat 1=0:=by rcases hm' with rfl|rfl <;> rfl
    rw[e1,e2,Nat.and_one_is_mod]at hat;exact hat
   ·have h':k=4:=by omega
    subst h';have e2:Xv m.toNat 4=9:=by rcases hm' with rfl|rfl <;> rfl
    have e1:maskN m.toNat 4%2 ^ 4=15:=by rcases hm' with rfl|rfl <;> rfl
    have:=hmod 4;rw[hat,e2,e1,h15 _ (by omega)]at this;omega
   ·have e2:Xv m.toNat k%2 ^ 2=3:=by
     have:k=5∨k=6∨k=7∨k=8∨k=9:=by omega
     rcases hm' with rfl|rfl <;> rcases this with rfl|rfl|rfl|rfl|rfl <;> rfl
    have e1:maskN m.toNat k%2 ^ 2=3:=by
     have:k=5∨k=6∨k=7∨k=8∨k=9:=by omega
     rcases hm' with rfl|rfl <;> rcases this with rfl|rfl|rfl|rfl|rfl <;> rfl
    have:=hmod 2;rw[hat,e2,e1,h3 _ (by omega)]at this;omega
  ·simp at hk0
def L1 (c:Cfg)(s:St):Nat:=s.out.length+(s.queue.length-ahead c s s.vs)+(if s.Xh then 15 else 0)
def L2 (c:Cfg)(s:St)(lu:Bool):Nat:=Jf s.out+(c.room-s.came.length)+(if s.state=2∧s.Xu=false∧lu=false then 1 else 0)
def L3 (s:St):Nat:=aft false s.out+(if XaI false s.out=true∧s.queue≠ []then 1 else 0)
structure Lim (c:Cfg)(n r k:Nat)(lu lu':Bool)(s t:St):Prop where
 a:L1 c t≤L1 c s+n
 b:L2 c t lu'≤L2 c s lu+r
 c:L3 t≤L3 s+k
section
variable {c:Cfg}{s t u:St}{n r k n' r' k':Nat}{lu lu' lu2:Bool}{x:Msg}
theorem Lim.trans (h:Lim c n r k lu lu' s t)(h':Lim c n' r' k' lu' lu2 t u):Lim c (n+n') (r+r') (k+k') lu lu2 s u:=
 ⟨by have:=h.a;have:=h'.a;omega,by have:=h.b;have:=h'.b;omega,by have:=h.c;have:=h'.c;omega⟩
theorem Lim.mono (h:Lim c n r k lu lu' s t)(h1:n≤n')(h2:r≤r')(h3:k≤k'):Lim c n' r' k' lu lu' s t:=
 ⟨by have:=h.a;omega,by have:=h.b;omega,by have:=h.c;omega⟩
theorem Lim.refl:Lim c 0 0 0 lu lu s s:=⟨Nat.le_refl _,Nat.le_refl _,Nat.le_refl _⟩
theorem Lim.next (b:Msg):Lim c 0 (hit lu b) 0 lu (nxt lu b) s s:=by
 refine⟨Nat.le_refl _,?_,Nat.le_refl _⟩;unfold L2 nxt hit;by_cases hu:kU b=true
 ·simp[hu];omega
 ·by_cases hi:kI b=true
  ·cases lu
   ·simp[hi,hu]
   ·simp[hi,hu];split <;> omega
  ·simp[hi,hu]
theorem Lim.calm:Lim c 0 1 0 lu false s s:=by
 refine⟨Nat.le_refl _,?_,Nat.le_refl _⟩;unfold L2;split <;> split <;> omega
theorem Lim.quiet (ho:t.out=s.out)(hq:t.queue=s.queue)(ha:ahead c t t.vs=ahead c s s.vs)(hp:t.Xh=s.Xh)(hc:t.came=s.came)(hs:t.state=s.state)(hr:t.Xu=s.Xu):Lim c 0 0 0 lu lu s t:=by
 refine⟨?_,?_,?_⟩
 ·unfold L1;rw[ho,hq,ha,hp];exact Nat.le_refl _
 ·unfold L2;rw[ho,hc,hs,hr];exact Nat.le_refl _
 ·unfold L3;rw[ho,hq];exact Nat.le_refl _
theorem Lim.said (ho:t.out=s.out++[x])(hI:kI x=false)(hU:kU x=false)(hR:kR x=false)(hq:t.queue=s.queue)(ha:ahead c t t.vs=ahead c s s.vs)(hp:t.Xh=s.Xh)(hc:t.came=s.came)(hs:t.state=s.state)(hr:t.Xu=s.Xu):Lim c 1 0 0 lu lu s t:=by
 refine⟨?_,?_,?_⟩
 ·unfold L1;rw[ho,hq,ha,hp,List.length_append];simp;omega
 ·unfold L2;rw[ho,hc,hs,hr,Xbg];simp[hR]
 ·unfold L3;rw[ho,hq,XbD,XbO];simp[hit,nxt,hI,hU]
theorem Lim.Xlw (ho:t.out=s.out)(hq:t.queue=[])(hp:t.Xh=false)(hc:t.came=s.came)(h2:t.state≠2∨lu'=true):Lim c 0 0 0 lu lu' s t:=by
 refine⟨?_,?_,?_⟩
 ·unfold L1;rw[ho,hq,hp];simp;omega
 ·unfold L2;rw[ho,hc,if_neg (c:=t.state=2∧t.Xu=false∧lu'=false)]
  ·omega
  ·rintro ⟨h,_,h'⟩;rcases h2 with h2|h2
   ·exact h2 h
   ·rw[h2]at h';exact absurd h' (by decide)
 ·unfold L3;rw[ho,hq];simp
theorem Lim.reset (ho:t.out=s.out++[x])(hI:kI x=false)(hR:kR x=false)(hq:t.queue=[])(hp:t.Xh=false)(hc:t.came=s.came)(h2:t.state≠2∨lu'=true):Lim c 1 0 0 lu lu' s t:=by
 refine⟨?_,?_,?_⟩
 ·unfold L1;rw[ho,hq,hp,List.length_append];simp;omega
 ·unfold L2;rw[ho,hc,Xbg,if_neg (c:=t.state=2∧t.Xu=false∧lu'=false)]
  ·simp[hR]
  ·rintro ⟨h,_,h'⟩;rcases h2 with h2|h2
   ·exact h2 h
   ·rw[h2]at h';exact absurd h' (by decide)
 ·unfold L3;rw[ho,hq,XbD];simp[hit,hI]
end
section
variable {c:Cfg}{s t u:St}{lu:Bool}
theorem XlA (f:Fr)(hk:f.k=2∨f.k=3):Lim c 1 0 0 lu lu s (QD c f s):=by
 obtain⟨h1,h2,h3⟩:=(Jo c.m {f with a:=(c.addr:Int)}).2.1 hk;exact Lim.said (x:=(XT c.m {f with a:=(c.addr:Int)}).2) rfl h1 h2 h3 rfl rfl rfl rfl rfl rfl
theorem Xlz (f:Fr)(hk:f.k=2∨f.k=3):Lim c 1 0 0 lu lu s (Za c f s):=by
 obtain⟨h1,h2,h3⟩:=(Jo c.m {f with a:=4 -(c.addr:Int)}).2.1 hk;exact Lim.said (x:=(XT c.m {f with a:=4 -(c.addr:Int)}).2) rfl h1 h2 h3 rfl rfl rfl rfl rfl rfl
theorem Xfk:((ready c s:Nat):Int)=2∨((ready c s:Nat):Int)=3:=by unfold ready;split <;> omega
theorem JQ (p:Bool):Lim c 1 0 0 lu lu s (answer c p s):=XlA _ Xfk
theorem XbQ {m:Int}{f:Fr}(hk:5≤f.k)(ho:t.out=s.out++[(XT m f).2])(hq:t.queue=[])(hp:t.Xh=false)(hc:t.came=s.came)(h2:t.state≠2∨lu=true):Lim c 1 0 0 lu lu s t:=by
 obtain⟨h1,h3⟩:=(Jo m f).2.2.2 hk;exact Lim.reset ho h1 h3 hq hp hc h2
theorem Xig (h:s.ok c)(h2:s.state≠2)(k:Nat)(hk:5≤k)(p:Bool):Lim c 1 0 0 lu lu s (Yj c k p s):=by
 obtain⟨q1,q2,_⟩:=h.down h2;exact XbQ (m:=c.m) (f:=⟨(c.addr:Int),k,p,0,0,[]⟩) (show(5:Int)≤k by omega) rfl q1 q2 rfl (.inl h2)
theorem XjR (h:s.ok c)(h2:s.state≠2)(p:Bool):Lim c 1 0 0 lu lu s (report c p s):=by
 obtain⟨q1,q2,_⟩:=h.down h2;exact XbQ (m:=c.m) (f:=⟨(c.addr:Int),9,p,0,0,List.replicate (JE c.m).toNat 0⟩) (show(5:Int)≤9 by decide) rfl q1 q2 rfl (.inl h2)
theorem XiF (k kd:Nat)(hk:k≠2)(hkd:5≤kd):Lim c 1 0 0 lu lu s (ask c k kd s):=
 XbQ (m:=c.m) (f:=⟨4 -(c.addr:Int),kd,true,0,0,[]⟩) (show(5:Int)≤kd by omega) rfl rfl rfl rfl (.inl hk)
theorem XaD (e:Nat):Lim c 0 0 0 lu lu s (Zi e s):=Lim.Xlw rfl rfl rfl rfl (.inl (show(0:Nat)≠2 by decide))
theorem Xi8 (e:Nat):Lim c 0 0 0 true true s (Xap e s):=Lim.Xlw rfl rfl rfl rfl (.inr rfl)
theorem Xdx (p:Bool)(e:Nat):Lim c 1 0 0 true true s (accept c p e s):=
 XbQ (m:=c.m) (f:=⟨(c.addr:Int),(7:Nat),p,0,0,[]⟩) (show(5:Int)≤7 by decide) rfl rfl rfl rfl (.inr rfl)
theorem Xkt (p:Bool):Lim c 1 0 0 lu lu s (agree c p s):=
 XbQ (m:=c.m) (f:=⟨(c.addr:Int),(7:Nat),p,0,0,[]⟩) (show(5:Int)≤7 by decide) rfl rfl rfl rfl (.inl (show(0:Nat)≠2 by decide))
theorem Xfq (f:Fr):Lim c 1 0 0 lu lu s (Zo c f s):=
 XbQ (m:=c.m) (f:=⟨(c.addr:Int),9,X8 c f&&f.p,0,0,List.replicate (JE c.m).toNat 0⟩) (show(5:Int)≤9 by decide) rfl rfl rfl rfl (.inl (show(4:Nat)≠2 by decide))
theorem XkE:Lim c 1 0 0 lu lu s (Xaj c (tell 2 s)):=
 XbQ (m:=c.m) (f:=⟨4 -(c.addr:Int),(5:Nat),true,0,0,[]⟩) (show(5:Int)≤5 by decide) rfl rfl rfl rfl (.inl (show(1:Nat)≠2 by decide))
theorem XfM:(XF c s).out=s.out++[(XT c.m ⟨4 -(c.addr:Int),1,false,s.vs,s.vr,s.queue.getD (ahead c s s.vs) []⟩).2]:=by unfold XF JZ;split <;> rfl
theorem Xb5:(XF c s).came=s.came:=by unfold XF JZ;split <;> rfl
theorem XcT:(XF c s).Xu=s.Xu:=by unfold XF JZ;split <;> rfl
theorem Xhe (hc:c.ok)(h:s.ok c)(hm:YU c s=true):Lim c 0 0 0 lu lu s (XF c s):=by
 obtain⟨_,g2,_⟩:=Y9.1 hm;obtain⟨k1,k2⟩:=(Jo c.m ⟨4 -(c.addr:Int),1,false,s.vs,s.vr,s.queue.getD (ahead c s s.vs) []⟩).1 rfl;have ho:=XfM (c:=c) (s:=s);generalize (XT c.m ⟨4 -(c.addr:Int),1,false,s.vs,s.vr,s.queue.getD (ahead c s s.vs) []⟩).2=x at*;refine⟨?_,?_,?_⟩
 ·unfold L1;rw[ho,Xbz,Xby hc h hm,Xa4,List.length_append];simp only[List.length_cons,List.length_nil];omega
 ·unfold L2;rw[ho,Xb5,Qu,XcT,Xbg];simp[k2]
 ·unfold L3;have hq:s.queue≠ []:=fun e=>by rw[e]at g2;simp at g2
  rw[ho,Xbz,XbD,XbO];unfold hit nxt;by_cases hi:kI x=true
  ·by_cases hl:XaI false s.out=true
   ·simp[hi,k1,hl,hq]
   ·simp[hi,k1,hl]
  ·simp[hi,k1]
theorem Xlp (hc:c.ok)(n:Nat):∀ {s:St},s.ok c→s.state=2→Lim c 0 0 0 lu lu s (YT c n s):=by
 induction n with
 |zero=>exact fun _ _=>Lim.refl
 |succ n ih=>
  intro s h h2;unfold YT;split
  ·rename_i hm
   exact(Xhe hc h hm).trans (ih (Xam hc h hm h2) (Qu.trans h2))
  ·exact Lim.refl
theorem Xhi:Lim c 0 0 0 lu lu s (XV c s):=by
 unfold XV;split
 ·exact Lim.quiet rfl rfl rfl rfl rfl rfl rfl
 ·split
  ·exact Lim.quiet rfl rfl rfl rfl rfl rfl rfl
  ·exact Lim.refl
theorem Xdl (hc:c.ok)(h:s.ok c)(h2:s.state=2):Lim c 0 0 0 lu lu s (pump c s):=by
 unfold pump;split
 ·exact Lim.refl
 ·exact (Xlp hc 16 h h2).trans Xhi
theorem Xdy (hc:c.ok)(h:s.ok c){nr:Nat}(hn:nr<c.m)(hg:XI c s nr=true):Lim c 0 0 0 lu lu s (Xe c nr s):=by
 have hg':ahead c s nr≤ahead c s s.vm:=by simpa[XI]using hg
 unfold Xe;split
 ·exact Lim.refl
 ·rename_i h0
  generalize ht:({s with vs:=if ahead c s s.vs<ahead c s nr then nr else s.vs,queue:=s.queue.drop (ahead c s nr),va:=nr,timer:=if s.Xh then s.timer else 0}:St)=t;have hta:t.va=nr:=by rw[← ht]
  have hts:t.vs=if ahead c s s.vs<ahead c s nr then nr else s.vs:=by rw[← ht]
  have htq:t.queue=s.queue.drop (ahead c s nr):=by rw[← ht]
  have hto:t.out=s.out:=by rw[← ht]
  have htp:t.Xh=s.Xh:=by rw[← ht]
  have htc:t.came=s.came:=by rw[← ht]
  have htt:t.state=s.state:=by rw[← ht]
  have htr:t.Xu=s.Xu:=by rw[← ht]
  refine⟨?_,?_,?_⟩
  ·unfold L1;rw[hto,htp,htq,List.length_drop,hts];split
   ·have:ahead c t nr=0:=by rw[← hta];exact XbF hc (by rw[hta];exact hn)
    omega
   ·rw[XbE hc h.va hn h.vs (by omega) t hta];omega
  ·unfold L2;rw[hto,htc,htt,htr];exact Nat.le_refl _
  ·unfold L3;rw[hto,htq];split
   ·rename_i hh
    have hne:s.queue≠ []:=fun e=>hh.2 (by rw[e];simp)
    simp[hh.1,hne]
   ·omega
theorem Xfv (hc:c.ok)(h:s.ok c)(f:Fr)(hn:s.va=f.nr.toNat){e:Nat}(he:f.k=4→15≤e):Lim c (1+e) 0 0 lu lu s (Xn c f s):=by
 have hv:=h.vmw;have hw:=hc.win15;have hs:=h.svs;have h0:ahead c s f.nr.toNat=0:=by rw[← hn];exact XbF hc h.va
 have hL:∀t:St,t.out=s.out→t.queue=s.queue→t.came=s.came→t.state=s.state→t.Xu=s.Xu→L2 c t lu≤L2 c s lu∧L3 t≤L3 s:=fun t ho hq hcm hst hr=>by
  unfold L2 L3;rw[ho,hcm,hst,hr,hq];exact⟨Nat.le_refl _,Nat.le_refl _⟩
 obtain⟨v,hv'⟩:∃v,(if f.k=4 then f.nr.toNat else s.vs)=v:=⟨_,rfl⟩
 have hva:s.queue.length-ahead c s v≤s.queue.length-ahead c s s.vs+e:=by
  rw[← hv'];split
  ·rename_i h4
   have:=he h4;rw[h0];omega
  ·omega
 obtain⟨q,hq⟩:∃q,(f.k==3)=q:=⟨_,rfl⟩
 have s1:Lim c e 0 0 lu lu s {s with peer:=q,vs:=v}:=by
  obtain⟨g1,g2⟩:=hL {s with peer:=q,vs:=v} rfl rfl rfl rfl rfl;refine⟨?_,g1,g2⟩;have e1:L1 c {s with peer:=q,vs:=v}=s.out.length+(s.queue.length-ahead c s v)+(if s.Xh then 15 else 0):=rfl;rw[e1];unfold L1;omega
 unfold Xn;dsimp only
 rw[hv',hq];split
 ·exact s1.mono (by omega) (Nat.le_refl _) (Nat.le_refl _)
 ·split
  ·exact (s1.trans (JQ true)).mono (by omega) (Nat.le_refl _) (Nat.le_refl _)
  ·split
   ·rename_i hp
    have hp':s.Xh=true:=hp;obtain⟨g1,g2⟩:=hL {s with peer:=q,vs:=f.nr.toNat,Xh:=false,timer:=0} rfl rfl rfl rfl rfl;refine⟨?_,g1,g2⟩;have e1:L1 c {s with peer:=q,vs:=f.nr.toNat,Xh:=false,timer:=0}=s.out.length+(s.queue.length-ahead c s f.nr.toNat)+0:=rfl;refine Nat.le_trans (Nat.le_of_eq e1) ?_;unfold L1;rw[h0,hp'];simp only[if_true];omega
   ·exact s1.mono (by omega) (Nat.le_refl _) (Nat.le_refl _)
theorem XhQ (f:Fr)(hlu:lu=false)(h2:s.state=2):Lim c 1 0 0 lu lu s (Ym c f s):=by
 unfold Ym;split
 ·exact JQ _
 ·rename_i hh
  have hroom:s.came.length<c.room:=by
   unfold XO at hh;simp at hh;omega
  split
  ·have h1:Lim c 0 0 0 lu lu s {s with vr:=follow c s.vr,came:=s.came++[f.info],Xu:=false}:=by
    refine⟨Nat.le_refl _,?_,Nat.le_refl _⟩;show Jf s.out+(c.room -(s.came++[f.info]).length)+(if s.state=2∧false=false∧lu=false then 1 else 0)≤L2 c s lu+0
    unfold L2;rw[List.length_append,h2,hlu];simp;omega
   exact(h1.trans (JQ f.p)).mono (by omega) (Nat.le_refl _) (Nat.le_refl _)
  ·split
   ·rename_i hr
    obtain⟨h1,h3⟩:=(Jo c.m ⟨(c.addr:Int),4,f.p,0,s.vr,[]⟩).2.2.1 rfl;have ho:(QD c ⟨0,4,f.p,0,s.vr,[]⟩ {s with Xu:=true}).out=s.out++[(XT c.m ⟨(c.addr:Int),4,f.p,0,s.vr,[]⟩).2]:=rfl;generalize (XT c.m ⟨(c.addr:Int),4,f.p,0,s.vr,[]⟩).2=x at*;refine⟨?_,?_,?_⟩
    ·unfold L1;rw[ho,List.length_append];show s.out.length+1+(s.queue.length-ahead c s s.vs)+(if s.Xh then 15 else 0)≤_
     omega
    ·unfold L2;rw[ho,Xbg];show Jf s.out+_+(c.room-s.came.length)+(if s.state=2∧true=false∧lu=false then 1 else 0)≤_
     rw[h2,hr,hlu];simp;split <;> omega
    ·unfold L3;rw[ho,XbD,XbO];show _+(if _∧s.queue≠ []then 1 else 0)≤_
     simp[hit,nxt,h1,h3]
   ·split
    ·exact JQ _
    ·exact Lim.refl.mono (Nat.zero_le _) (Nat.le_refl _) (Nat.le_refl _)
theorem XhR (hc:c.ok)(h:s.ok c)(h2:s.state=2)(f:Fr)(hn:f.nr.toNat<c.m)(hlu:f.k=1→lu=false){e:Nat}(he:f.k=4→15≤e):Lim c (1+e) 0 0 lu lu s (YO c f s):=by
 unfold YO;split
 ·exact (Xfq f).mono (by omega) (Nat.le_refl _) (Nat.le_refl _)
 ·rename_i hg
  have hg':XI c s f.nr.toNat=true:=eq_true_of_ne_false hg;have ha:=Yl hc h h2 hn hg';have hl:=Xdy (lu:=lu) hc h hn hg';have hs:(Xe c f.nr.toNat s).state=2:=X5.trans h2;split
  ·rename_i h1
   exact((hl.trans (XhQ f (hlu h1) hs)).trans (Xdl hc (QB hc ha hs f) ((ZF f).trans hs))).mono (by omega) (Nat.le_refl _) (Nat.le_refl _)
  ·exact ((hl.trans (Xfv hc ha f (Zc hc h hn) he)).trans (Xdl hc (ZZ hc ha hs f (Zc hc h hn)) ((Zj f).trans hs))).mono (by omega) (Nat.le_refl _) (Nat.le_refl _)
theorem XdU (hc:c.ok)(h:s.ok c){f:Fr}(h2:s.state=2∨f.k=5∨f.k=6∨f.k=8)(hn:f.nr.toNat<c.m)(hlu:f.k=1→lu=false)(hlt:5≤f.k→lu=true){e:Nat}(he:f.k=4→15≤e):Lim c (1+e) 0 0 lu lu s (Zu c f s):=by
 unfold Zu;split
 ·rename_i h5
  have:=hlt (by omega);subst this;exact(Xdx _ _).mono (by omega) (Nat.le_refl _) (Nat.le_refl _)
 ·split
  ·exact (Xkt _).mono (by omega) (Nat.le_refl _) (Nat.le_refl _)
  ·split
   ·exact (XaD _).mono (by omega) (Nat.le_refl _) (Nat.le_refl _)
   ·split
    ·exact XkE.mono (by omega) (Nat.le_refl _) (Nat.le_refl _)
    ·split
     ·exact XhR hc h (by omega) f hn hlu he
     ·exact Lim.refl.mono (Nat.zero_le _) (Nat.le_refl _) (Nat.le_refl _)
theorem Xfs (hc:c.ok)(h:s.ok c)(f:Fr)(hn:f.nr.toNat<c.m)(hlu:f.k=1→lu=false)(hlt:5≤f.k→lu=true){e:Nat}(he:f.k=4→15≤e):Lim c (1+e) 0 0 lu lu s (Yr c f s):=by
 have idle:Lim c (1+e) 0 0 lu lu s s:=Lim.refl.mono (Nat.zero_le _) (Nat.le_refl _) (Nat.le_refl _);have resp:s.state≠2→∀k p,5≤k→Lim c (1+e) 0 0 lu lu s (Yj c k p s):=fun h2 k p hk=>(Xig h h2 k hk p).mono (by omega) (Nat.le_refl _) (Nat.le_refl _)
 unfold Yr;split
 ·rename_i hst
  unfold Zw;split
  ·have:=hlt (by omega);subst this;exact(Xdx _ _).mono (by omega) (Nat.le_refl _) (Nat.le_refl _)
  ·split
   ·exact resp (by omega) _ _ (by omega)
   ·split
    ·split
     ·exact resp (by omega) _ _ (by omega)
     ·exact idle
    ·exact idle
 ·split
  ·unfold YM;split
   ·exact resp (by omega) _ _ (by omega)
   ·split
    ·exact resp (by omega) _ _ (by omega)
    ·split
     ·rename_i h7
      have:=hlt (by omega);subst this;exact(Xi8 _).mono (Nat.zero_le _) (Nat.le_refl _) (Nat.le_refl _)
     ·split
      ·exact (XaD _).mono (Nat.zero_le _) (Nat.le_refl _) (Nat.le_refl _)
      ·exact idle
  ·split
   ·rename_i h2
    exact XdU hc h (.inl h2) hn hlu hlt he
   ·split
    ·unfold YN;split
     ·exact resp (by omega) _ _ (by omega)
     ·split
      ·exact resp (by omega) _ _ (by omega)
      ·split
       ·split
        ·exact (XaD _).mono (Nat.zero_le _) (Nat.le_refl _) (Nat.le_refl _)
        ·exact idle
       ·exact idle
    ·split
     ·unfold Y3;split
      ·rename_i hk
       exact XdU hc h (.inr hk) hn hlu hlt he
      ·split
       ·split
        ·exact (XjR h (by omega) _).mono (by omega) (Nat.le_refl _) (Nat.le_refl _)
        ·exact idle
       ·exact idle
     ·exact idle
theorem Xe2 (hc:c.ok)(h:s.ok c)(b:Msg):Lim c (1+if kR b then 15 else 0) (hit lu b) 0 lu (nxt lu b) s (Yy c b s).2:=by
 have h0:=Lim.next (c:=c) (s:=s) (lu:=lu) b;obtain⟨e,he⟩:∃e,(if kR b then 15 else 0)=e:=⟨_,rfl⟩;rw[he];unfold Yy;split
 ·exact h0.mono (Nat.zero_le _) (Nat.le_refl _) (Nat.le_refl _)
 ·rename_i hr
  have hr':(Xi c.m b).1=0:=by simpa using hr
  obtain⟨k1,k2,k3⟩:=XjQ c.m b hr';obtain⟨nr,e1,e2⟩:=Xa0 c.m hc.m b;split
  ·refine (h0.trans (Xfs hc h _ (by rw[e1];simpa using e2) (fun h1=> ?_) (fun h5=> ?_) (e:=e) (fun h4=> ?_))).mono (by omega) (Nat.le_refl _) (Nat.le_refl _)
   ·have:=k1 h1
    have hu:kU b=false:=by
     cases hU:kU b
     ·rfl
     ·rw[Xjq hU]at this;exact absurd this (by decide)
    unfold nxt;simp[hu,this]
   ·unfold nxt;simp[k3 h5]
   ·rw[← he,k2 h4];simp
  ·exact h0.mono (Nat.zero_le _) (Nat.le_refl _) (Nat.le_refl _)
theorem Xf9:Lim c 1 0 0 lu lu s (X4 c s).2:=by
 unfold X4;split
 ·exact XiF 1 5 (by decide) (by decide)
 ·exact Lim.refl.mono (Nat.zero_le _) (Nat.le_refl _) (Nat.le_refl _)
theorem Xjt:Lim c 1 0 0 lu lu s (YF c s).2:=by
 unfold YF;split
 ·exact Lim.refl.mono (Nat.zero_le _) (Nat.le_refl _) (Nat.le_refl _)
 ·exact XiF 3 6 (by decide) (by decide)
theorem XdD (was:Bool):Lim c 1 0 0 lu lu s (change c was s):=by
 unfold change;split
 ·exact JQ _
 ·exact Lim.refl.mono (Nat.zero_le _) (Nat.le_refl _) (Nat.le_refl _)
theorem XkB (on:Bool):Lim c 1 0 0 lu lu s (Qz c on s):=
 by
 have h1:Lim c 0 0 0 lu lu s {s with busy:=on}:=Lim.quiet rfl rfl rfl rfl rfl rfl rfl;exact(h1.trans (XdD (XO c s))).mono (by omega) (Nat.le_refl _) (Nat.le_refl _)
theorem Xj4 (hc:c.ok):Lim c 1 16 0 lu lu s (ZL c s):=by
 have h1:Lim c 0 16 0 lu lu s {s with came:=[]}:=by
  refine⟨Nat.le_refl _,?_,Nat.le_refl _⟩;have:=hc.room16;show Jf s.out+(c.room-0)+(if s.state=2∧s.Xu=false∧lu=false then 1 else 0)≤L2 c s lu+16
  unfold L2;omega
 exact(h1.trans (XdD (XO c s))).mono (by omega) (Nat.le_refl _) (Nat.le_refl _)
theorem XlD (hc:c.ok)(h:s.ok c)(b:Msg):Lim c 1 0 1 lu lu s (Qa c b s).2:=by
 have idle:Lim c 1 0 1 lu lu s s:=Lim.refl.mono (Nat.zero_le _) (Nat.le_refl _) (Nat.zero_le _);unfold Qa;split
 ·exact idle
 ·rename_i h2
  have h2':s.state=2:=by omega
  split
  ·exact idle
  ·split
   ·exact idle
   ·rename_i h32 h20
    have h1:Lim c 1 0 1 lu lu s {s with queue:=s.queue++[b]}:=by
     refine⟨?_,Nat.le_refl _,?_⟩
     ·show s.out.length+((s.queue++[b]).length-ahead c s s.vs)+(if s.Xh then 15 else 0)≤_
      unfold L1;rw[List.length_append];simp only[List.length_cons,List.length_nil];omega
     ·show aft false s.out+(if XaI false s.out=true∧(s.queue++[b])≠ []then 1 else 0)≤_
      unfold L3;split <;> split <;> omega
    have hok:St.ok c {s with queue:=s.queue++[b]}:=by
     refine⟨h.state,h.vs,h.va,h.vr,h.vm,h.svs,?_,h.vmw,?_,?_,h.timer,h.tim0,h.tries,h.came,fun hh=>absurd h2' hh⟩
     ·show ahead c s s.vm≤(s.queue++[b]).length
      have:=h.svm;rw[List.length_append];omega
     ·show (s.queue++[b]).length≤20
      rw[List.length_append];simp only[List.length_cons,List.length_nil];omega
     ·intro x hx;rcases List.mem_append.1 hx with hx|hx
      ·exact h.q32 x hx
      ·simp at hx;rw[hx];omega
    exact h1.trans (Xdl hc hok h2')
theorem XjX (h:s.ok c):Lim c 16 0 0 lu lu s (Zd c s):=by
 unfold Zd;split
 ·exact (XaD _).mono (by omega) (Nat.le_refl _) (Nat.le_refl _)
 ·split
  ·rename_i hst
   obtain⟨q1,q2,_⟩:=h.down (by omega)
   have h1:Lim c 1 0 0 lu lu s (Za c ⟨0,5,true,0,0,[]⟩ {s with tries:=s.tries+1,timer:=c.tim}):=
    XbQ (m:=c.m) (f:=⟨4 -(c.addr:Int),5,true,0,0,[]⟩) (show(5:Int)≤5 by decide) rfl q1 q2 rfl (.inl (show s.state≠2 by omega))
   exact h1.mono (by omega) (Nat.le_refl _) (Nat.le_refl _)
  ·split
   ·rename_i hst
    obtain⟨q1,q2,_⟩:=h.down (by omega)
    have h1:Lim c 1 0 0 lu lu s (Za c ⟨0,6,true,0,0,[]⟩ {s with tries:=s.tries+1,timer:=c.tim}):=
     XbQ (m:=c.m) (f:=⟨4 -(c.addr:Int),6,true,0,0,[]⟩) (show(5:Int)≤6 by decide) rfl q1 q2 rfl (.inl (show s.state≠2 by omega))
    exact h1.mono (by omega) (Nat.le_refl _) (Nat.le_refl _)
   ·split
    ·have h1:Lim c 15 0 0 lu lu s {s with tries:=s.tries+1,timer:=c.tim,Xh:=true}:=by
      refine⟨?_,Nat.le_refl _,Nat.le_refl _⟩;show s.out.length+(s.queue.length-ahead c s s.vs)+15≤_
      unfold L1;omega
     exact h1.trans (Xlz ⟨0,ready c s,true,0,s.vr,[]⟩ Xfk)
    ·have h1:Lim c 0 0 0 lu lu s {s with tries:=s.tries+1,timer:=c.tim}:=Lim.quiet rfl rfl rfl rfl rfl rfl rfl;exact h1.mono (Nat.zero_le _) (Nat.le_refl _) (Nat.le_refl _)
theorem Xl6 (h:s.ok c):Lim c 16 0 0 lu lu s (Jd c s):=by
 unfold Jd;split
 ·exact Lim.refl.mono (Nat.zero_le _) (Nat.le_refl _) (Nat.le_refl _)
 ·split
  ·have h0:St.ok c {s with timer:=0}:=⟨h.state,h.vs,h.va,h.vr,h.vm,h.svs,h.svm,h.vmw,h.q20,h.q32,Nat.zero_le _,fun _=>rfl,h.tries,h.came,h.down⟩;have h1:Lim c 0 0 0 lu lu s {s with timer:=0}:=Lim.quiet rfl rfl rfl rfl rfl rfl rfl;exact(h1.trans (XjX h0)).mono (by omega) (Nat.le_refl _) (Nat.le_refl _)
  ·have h1:Lim c 0 0 0 lu lu s {s with timer:=s.timer-1}:=Lim.quiet rfl rfl rfl rfl rfl rfl rfl;exact h1.mono (Nat.zero_le _) (Nat.le_refl _) (Nat.le_refl _)
def Phi (c:Cfg)(s:St):Nat:=L1 c s+15*L2 c s false+15*L3 s
def Xaa (L:List Msg):Nat:=L.length+15*Jf L+15*aft false L
theorem Lim.phi {n r k:Nat}(h:Lim c n r k false false s t):Phi c t≤Phi c s+n+15*r+15*k:=by
 have:=h.a;have:=h.b;have:=h.c;unfold Phi;omega
theorem Xdf (L:List Msg):L.length≤Xaa L:=by unfold Xaa;omega
theorem XmN {M L:List Msg}(h:M.Sublist L):Xaa M≤Xaa L:=by
 have h1:=h.length_le;have h2:Jf M≤Jf L:=h.countP_le;have h3:=XnU h false;unfold Xaa;omega
theorem XmM:Xaa s.out≤Phi c s:=by unfold Xaa Phi L1 L2 L3;omega
theorem XiN:Phi c {s with out:=[]}+Xaa s.out≤Phi c s:=by
 have e1:L1 c {s with out:=[]}+s.out.length=L1 c s:=by
  show 0+(s.queue.length-ahead c s s.vs)+(if s.Xh then 15 else 0)+s.out.length=_
  unfold L1;omega
 have e2:L2 c {s with out:=[]} false+Jf s.out=L2 c s false:=by
  show 0+(c.room-s.came.length)+(if s.state=2∧s.Xu=false∧false=false then 1 else 0)+Jf s.out=_
  unfold L2;omega
 have e3:L3 {s with out:=[]}+aft false s.out≤L3 s:=by
  show 0+(if false=true∧s.queue≠ []then 1 else 0)+aft false s.out≤_
  unfold L3;simp
 unfold Phi Xaa;omega
theorem XkU (hc:c.ok):Phi c St.fresh≤255:=by
 have:=hc.room16;have e1:L1 c St.fresh=0:=by show 0+(0-_)+0=0;omega
 have e2:L2 c St.fresh false=c.room:=by show 0+(c.room-0)+(if(0:Nat)=2∧_∧_ then 1 else 0)=c.room;simp
 have e3:L3 St.fresh=0:=rfl;unfold Phi;omega
end
end Go.Proofs.YtkalonhalhdlaaaGreatDoor
namespace Go.Proofs.YtkalonhalhdlaaaGreatDoor
open Go.ChangeShapes Go.WideShapes Go.ChangeAt Go.RowKit
theorem Xob:ownKnob Tryz.prog.godebug=none:=by kernel_rfl
theorem Xpt : Tryz.prog.globalNamed "tether/tether.controls" = some 0 := by kernel_rfl
theorem XpA:(Tryz.prog.globals[0]?).map (·.type)=some 164:=by kernel_rfl
theorem XpB:Tryz.prog.underlying 164=some (.array 10 5):=by kernel_rfl
theorem of_laid {W : World} (h : laidMetH Tryz.prog [("tether/tether.controls", Rows.laid_tether_tether_controls)] W) : Ctl W ∧ 0 < W.heap.size := by
 rw[MakeChecks.laidMetH_plain _ _ _ (by kernel_rfl)]at h;obtain⟨ps,⟨g0,t0,cs0,f0,p0,q0,hg0,ht0,hv0,hd0,_,_⟩,_,_⟩:=h;obtain rfl:=Option.some.inj (Xpt.symm.trans hg0);obtain rfl:=Option.some.inj (XpA.symm.trans ht0);have c5:Tryz.prog.cellsOf 5=1:=by kernel_rfl
 obtain⟨xs,m1,rfl,hx1,hlen,hn,hel⟩:=DataW.trod_array XpB hd0
 have hC:Ctl W:=by
  intro i hi;rw[World.var?_cell hg0 hv0 i];have h1:=hel i hi;rw[c5,Nat.mul_one]at h1;simp only[Prod.mk.injEq,Rows.laid_tether_tether_controls,DataW.agg.injEq]at hx1;have hxi:xs[i]?=some xs[i]:=List.getElem?_eq_getElem (by omega);rw[hxi]at h1;obtain⟨k,e1,e2,_⟩:=DataW.trod_int Tryz.underlying5 h1;have h2:(xs.map (·.1))[i]?=some (.lit (.int .u8 k)):=by rw[List.getElem?_map,hxi,e2];rfl
  rw[← hx1.1]at h2
  have h3:cs0[i]?=some (.int .u8 k):=by
   have:(cs0.toList.drop i)[0]?=some (.int .u8 k):=by
    have:=congrArg (fun l=>l[0]?) e1;simpa using this
   simpa using this
  rw[h3];have hcases:i=0∨i=1∨i=2∨i=3∨i=4∨i=5∨i=6∨i=7∨i=8∨i=9:=by omega
  rcases hcases with rfl|rfl|rfl|rfl|rfl|rfl|rfl|rfl|rfl|rfl <;> simp at h2 <;> simp[← h2,Xa5]
 exact⟨hC,World.block_lt_of_cell? W _ (hC 0 (by omega))⟩
end Go.Proofs.YtkalonhalhdlaaaGreatDoor
