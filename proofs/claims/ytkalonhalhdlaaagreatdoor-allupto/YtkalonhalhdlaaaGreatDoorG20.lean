import Derived.Test.YtkalonhalhdlaaaGreatDoorG15
import Derived.Test.YtkalonhalhdlaaaGreatDoorTPump
set_option maxHeartbeats 8000000
set_option maxRecDepth 100000
namespace Go.Proofs.YtkalonhalhdlaaaGreatDoor
open Go.RowKit
section
variable {w:World}{own:Nat→Nat}{i b:Nat}{c:Cfg}{s:St}{cl:Bool}{q cm o ev:Value}{ce oe:List Value}
theorem TAt.XaE (h:TAt w own i b c s cl q cm o ev ce oe){w1 w3:World}{v:Value}(hb:Below w.heap.size w w1)(hg:w1.grownBy w3 v.ownBlock)(hv:∀k,v.ownBlock=some k→own k≠tg i 0):w3.heap[b]?=some (.cells (Zn c s cl q cm o ev) 137 (0,0)):=by
 have hlt:=h.lt;have hz:=hb.size;rw[hg.block b (by omega) (fun e=>hv b e.symm h.ownb),hb.block b hlt];exact h.head
theorem Xm3 (h:TAt w own i b c s cl q cm o ev ce oe)(fa fk:Int)(fp:Bool)(ns:Int)(nr:Int)(info:Msg)(fq:Option Addr)(fc:Nat)(hl:s.out.length≤2199023255552)(hhu:XO c s=true):
  Calls Tryz.prog 149 #[.pointer (some ⟨b,0,none⟩),.agg #[.int .i64 fa,.int .i64 fk,.bool fp,.int .i64 ns,.int .i64 nr,.slice fq info.length fc]] w fun e w'=>XA i b c (answer c fp s) cl own w e w':=by
 have hlt:=h.lt;have hn0:=h.Xp w.heap.size (Nat.le_refl _);have hA0:=Xg w (.cells #[.int .i64 fa,.int .i64 fk,.bool fp,.int .i64 ns,.int .i64 nr,.slice fq info.length fc] 30);have hbA:=(Below.refl w.heap.size w).alloc (Nat.le_refl _) (.cells #[.int .i64 fa,.int .i64 fk,.bool fp,.int .i64 ns,.int .i64 nr,.slice fq info.length fc] 30);go_enter Tryz.func149,Tryz.ntmps149
 go_upto_region 1 with fail
 generalize w.alloc (.cells #[.int .i64 fa,.int .i64 fk,.bool fp,.int .i64 ns,.int .i64 nr,.slice fq info.length fc] 30)=W0 at*;have h0:=h.later hbA;have k1:=Zx h0;rw[hhu]at k1;have K1:=hide k1;have H0:=hide h0;have HHU:=hide hhu;clear k1 h0 hhu;go_wp2_with fail
 refine(Xa K1).mono ?_;rintro e w0 ⟨rfl,n0,rfl⟩;have hV:=(Xa H0).drewN n0;have hVb:Below w.heap.size w (W0.drewN n0):=below_drewN hbA n0;have hAV:(W0.drewN n0).heap[w.heap.size]?=some (.cells #[.int .i64 fa,.int .i64 fk,.bool fp,.int .i64 ns,.int .i64 nr,.slice fq info.length fc] 30 (0,0)):=hA0;clear H0 K1 hA0 hbA;generalize W0.drewN n0=V at*;obtain⟨y0,y1,y2,y3,y4,y5⟩:=Xt hAV;have c0:=hV.c0;have c9:=hV.c9;have c17:=hV.c17;have fz:=hV.fz;have hne:¬w.heap.size=b:=by omega
 have hne2:¬b=w.heap.size:=by omega
 have K2:=hide (ZP hV false fp hl);have HB:=hide hVb;clear h hV hVb hAV HHU;go_wp2_with fail
 refine(Xa K2).mono ?_;rintro e w2 ⟨rfl,own2,o2,oe2,h3,u3⟩;have HR:=hide (And.intro h3 (Upd.of (Xa HB) u3));clear K2 h3 u3 HB y0 y1 y2 y3 y4 y5 c0 c9 c17 fz;go_wp2
 go_end0
 exact⟨rfl,_,⟨_,_,_,_,_,_,(Xa HR).1⟩,(Xa HR).2⟩
theorem Xm5 (h:TAt w own i b c s cl q cm o ev ce oe)(fa fk:Int)(ns:Int)(nr:Int)(info:Msg)(fq:Option Addr)(fc:Nat)(hl:s.out.length≤2199023255552)(hns:(ns==(s.vr:Int))=false)(hrj:s.Xu=true)(hhu:XO c s=false):
  Calls Tryz.prog 149 #[.pointer (some ⟨b,0,none⟩),.agg #[.int .i64 fa,.int .i64 fk,.bool true,.int .i64 ns,.int .i64 nr,.slice fq info.length fc]] w fun e w'=>XA i b c (answer c true s) cl own w e w':=by
 have hlt:=h.lt;have hn0:=h.Xp w.heap.size (Nat.le_refl _);have hA0:=Xg w (.cells #[.int .i64 fa,.int .i64 fk,.bool true,.int .i64 ns,.int .i64 nr,.slice fq info.length fc] 30);have hbA:=(Below.refl w.heap.size w).alloc (Nat.le_refl _) (.cells #[.int .i64 fa,.int .i64 fk,.bool true,.int .i64 ns,.int .i64 nr,.slice fq info.length fc] 30);go_enter Tryz.func149,Tryz.ntmps149
 go_upto_region 1 with fail
 generalize w.alloc (.cells #[.int .i64 fa,.int .i64 fk,.bool true,.int .i64 ns,.int .i64 nr,.slice fq info.length fc] 30)=W0 at*;have h0:=h.later hbA;have k1:=Zx h0;rw[hhu]at k1;have K1:=hide k1;have H0:=hide h0;have HHU:=hide hhu;clear k1 h0 hhu;go_wp2_with fail
 refine(Xa K1).mono ?_;rintro e w0 ⟨rfl,n0,rfl⟩;have hV:=(Xa H0).drewN n0;have hVb:Below w.heap.size w (W0.drewN n0):=below_drewN hbA n0;have hAV:(W0.drewN n0).heap[w.heap.size]?=some (.cells #[.int .i64 fa,.int .i64 fk,.bool true,.int .i64 ns,.int .i64 nr,.slice fq info.length fc] 30 (0,0)):=hA0;clear H0 K1 hA0 hbA;generalize W0.drewN n0=V at*;obtain⟨y0,y1,y2,y3,y4,y5⟩:=Xt hAV;have c0:=hV.c0;have c9:=hV.c9;have c17:=hV.c17;have fz:=hV.fz;have hne:¬w.heap.size=b:=by omega
 have hne2:¬b=w.heap.size:=by omega
 rw[hrj]at c17;go_wp2_with fail
 go_quiet (fail)
 have K2:=hide (ZP (hV.drewN nq) false true hl);have HB:=hide (below_drewN hVb nq);clear h hV hVb hAV HHU;go_wp2_with fail
 refine(Xa K2).mono ?_;rintro e w2 ⟨rfl,own2,o2,oe2,h3,u3⟩;have HR:=hide (And.intro h3 (Upd.of (Xa HB) u3));clear K2 h3 u3 HB y0 y1 y2 y3 y4 y5 c0 c9 c17 fz;go_wp2
 go_end0
 exact⟨rfl,_,⟨_,_,_,_,_,_,(Xa HR).1⟩,(Xa HR).2⟩
theorem XoR (h:TAt w own i b c s cl q cm o ev ce oe)(fa fk:Int)(ns:Int)(nr:Int)(info:Msg)(fq:Option Addr)(fc:Nat)(hns:(ns==(s.vr:Int))=false)(hrj:s.Xu=true)(hhu:XO c s=false):
  Calls Tryz.prog 149 #[.pointer (some ⟨b,0,none⟩),.agg #[.int .i64 fa,.int .i64 fk,.bool false,.int .i64 ns,.int .i64 nr,.slice fq info.length fc]] w fun e w'=>XA i b c (s) cl own w e w':=by
 have hlt:=h.lt;have hn0:=h.Xp w.heap.size (Nat.le_refl _);have hA0:=Xg w (.cells #[.int .i64 fa,.int .i64 fk,.bool false,.int .i64 ns,.int .i64 nr,.slice fq info.length fc] 30);have hbA:=(Below.refl w.heap.size w).alloc (Nat.le_refl _) (.cells #[.int .i64 fa,.int .i64 fk,.bool false,.int .i64 ns,.int .i64 nr,.slice fq info.length fc] 30);go_enter Tryz.func149,Tryz.ntmps149
 go_upto_region 1 with fail
 generalize w.alloc (.cells #[.int .i64 fa,.int .i64 fk,.bool false,.int .i64 ns,.int .i64 nr,.slice fq info.length fc] 30)=W0 at*;have h0:=h.later hbA;have k1:=Zx h0;rw[hhu]at k1;have K1:=hide k1;have H0:=hide h0;have HHU:=hide hhu;clear k1 h0 hhu;go_wp2_with fail
 refine(Xa K1).mono ?_;rintro e w0 ⟨rfl,n0,rfl⟩;have hV:=(Xa H0).drewN n0;have hVb:Below w.heap.size w (W0.drewN n0):=below_drewN hbA n0;have hAV:(W0.drewN n0).heap[w.heap.size]?=some (.cells #[.int .i64 fa,.int .i64 fk,.bool false,.int .i64 ns,.int .i64 nr,.slice fq info.length fc] 30 (0,0)):=hA0;clear H0 K1 hA0 hbA;generalize W0.drewN n0=V at*;obtain⟨y0,y1,y2,y3,y4,y5⟩:=Xt hAV;have c0:=hV.c0;have c9:=hV.c9;have c17:=hV.c17;have fz:=hV.fz;have hne:¬w.heap.size=b:=by omega
 have hne2:¬b=w.heap.size:=by omega
 rw[hrj]at c17;go_wp2_with fail
 go_quiet (fail)
 have HR:=hide (And.intro (hV.drewN nq) (Upd.of (below_drewN hVb nq) (Upd.refl i own (V.drewN nq))));clear h hV hVb hAV HHU;go_wp2
 go_end0
 exact⟨rfl,_,⟨_,_,_,_,_,_,(Xa HR).1⟩,(Xa HR).2⟩
theorem Xof (h:TAt w own i b c s cl q cm o ev ce oe)(fa fk:Int)(fp:Bool)(ns:Int)(nr:Int)(info:Msg)(fq:Option Addr)(fc:Nat)(hl:s.out.length≤2199023255552)(hns:(ns==(s.vr:Int))=false)(hrj:s.Xu=false)(hhu:XO c s=false):
  Calls Tryz.prog 149 #[.pointer (some ⟨b,0,none⟩),.agg #[.int .i64 fa,.int .i64 fk,.bool fp,.int .i64 ns,.int .i64 nr,.slice fq info.length fc]] w fun e w'=>XA i b c (QD c ⟨0,4,fp,0,s.vr,[]⟩ {s with Xu:=true}) cl own w e w':=by
 have hlt:=h.lt;have hn0:=h.Xp w.heap.size (Nat.le_refl _);have hA0:=Xg w (.cells #[.int .i64 fa,.int .i64 fk,.bool fp,.int .i64 ns,.int .i64 nr,.slice fq info.length fc] 30);have hbA:=(Below.refl w.heap.size w).alloc (Nat.le_refl _) (.cells #[.int .i64 fa,.int .i64 fk,.bool fp,.int .i64 ns,.int .i64 nr,.slice fq info.length fc] 30);go_enter Tryz.func149,Tryz.ntmps149
 go_upto_region 1 with fail
 generalize w.alloc (.cells #[.int .i64 fa,.int .i64 fk,.bool fp,.int .i64 ns,.int .i64 nr,.slice fq info.length fc] 30)=W0 at*;have h0:=h.later hbA;have k1:=Zx h0;rw[hhu]at k1;have K1:=hide k1;have H0:=hide h0;have HHU:=hide hhu;clear k1 h0 hhu;go_wp2_with fail
 refine(Xa K1).mono ?_;rintro e w0 ⟨rfl,n0,rfl⟩;have hV:=(Xa H0).drewN n0;have hVb:Below w.heap.size w (W0.drewN n0):=below_drewN hbA n0;have hAV:(W0.drewN n0).heap[w.heap.size]?=some (.cells #[.int .i64 fa,.int .i64 fk,.bool fp,.int .i64 ns,.int .i64 nr,.slice fq info.length fc] 30 (0,0)):=hA0;clear H0 K1 hA0 hbA;generalize W0.drewN n0=V at*;obtain⟨y0,y1,y2,y3,y4,y5⟩:=Xt hAV;have c0:=hV.c0;have c9:=hV.c9;have c17:=hV.c17;have fz:=hV.fz;have hne:¬w.heap.size=b:=by omega
 have hne2:¬b=w.heap.size:=by omega
 rw[hrj]at c17;go_wp2_with fail
 go_quiet (fail)
 have hD:=hV.drewN nq;have h2:=hD.wrote (s':={s with Xu:=true}) ((Xb.refl _ _).setB 17 (.bool true)) (hD.hd.Xu true) rfl rfl rfl rfl ⟨hD.sok.state,hD.sok.vs,hD.sok.va,hD.sok.vr,hD.sok.vm,hD.sok.q20,hD.sok.q32,hD.sok.timer,hD.sok.tries,hD.sok.came⟩;have u2:Upd i own own w ((V.drewN nq).setCell ⟨b,17,none⟩ (.bool true)):=Upd.of (below_drewN hVb nq) (hD.upd ((Xb.refl _ _).setB 17 (.bool true)));have k5:=fun U (hU:Below ((V.drewN nq).setCell ⟨b,17,none⟩ (.bool true)).heap.size ((V.drewN nq).setCell ⟨b,17,none⟩ (.bool true)) U)=>YR (h2.later hU) false ⟨0,4,fp,0,s.vr,[]⟩ none 0 (Y6 _) hl
 unfold frV at k5
 have d2:((V.drewN nq).setCell ⟨b,17,none⟩ (.bool true)).cell? ⟨w.heap.size,2,none⟩=some (.bool fp):=by
  rw[World.cell?_of_block (a:=⟨w.heap.size,2,none⟩) (Below.heap_setCell _ _ _ w.heap.size (by show w.heap.size≠b;omega))];exact y2
 have d9:((V.drewN nq).setCell ⟨b,17,none⟩ (.bool true)).cell? ⟨b,9,none⟩=some (.int .i64 s.vr):=h2.cell 9 rfl;have K5:=hide k5;have U2:=hide u2;clear h hV hVb hAV HHU hD h2 u2 k5;go_upto_region 11 with fail
 clear y0 y1 y2 y3 y4 y5 c0 c9 c17 fz;generalize (V.drewN nq).setCell ⟨b,17,none⟩ (.bool true)=V2 at*;go_region_with (go_at_call 103;refine(Xa K5 _ ?_).mono ?_;(first|exact Below.refl _ _|exact(Below.refl _ _).drew);rintro e w2 ⟨rfl,own2,o2,oe2,h3,u3⟩)
 all_goals go_wp2
 all_goals (first|go_end0|refine bodyPost_ret (results_none rfl _ _ _) rfl ?_)
 all_goals exact⟨rfl,_,⟨_,_,_,_,_,_,h3⟩,(Xa U2).trans (Upd.of ((Below.refl _ V2).drew) u3)⟩
theorem Xm4 (h:TAt w own i b c s cl q cm o ev ce oe)(fa fk:Int)(fp:Bool)(nr:Int)(info:Msg)(fq:Option Addr)(fc:Nat)(hl:s.out.length≤2199023255552)(hv:w.ownsRow 0 5 1 (.slice fq info.length fc) info.length (Lib.byteCells info))(hfree:∀k,(Value.slice fq info.length fc).ownBlock=some k→own k=0∧k≠0)(hhu:XO c s=false):
  Calls Tryz.prog 149 #[.pointer (some ⟨b,0,none⟩),.agg #[.int .i64 fa,.int .i64 fk,.bool fp,.int .i64 (s.vr:Nat),.int .i64 nr,.slice fq info.length fc]] w fun e w'=>Xag (Value.slice fq info.length fc).ownBlock i b c (answer c fp {s with vr:=follow c s.vr,came:=s.came++[info],Xu:=false}) cl own w e w':=by
 have hlt:=h.lt;have hn0:=h.Xp w.heap.size (Nat.le_refl _);have hA0:=Xg w (.cells #[.int .i64 fa,.int .i64 fk,.bool fp,.int .i64 (s.vr:Nat),.int .i64 nr,.slice fq info.length fc] 30);have hbA:=(Below.refl w.heap.size w).alloc (Nat.le_refl _) (.cells #[.int .i64 fa,.int .i64 fk,.bool fp,.int .i64 (s.vr:Nat),.int .i64 nr,.slice fq info.length fc] 30);go_enter Tryz.func149,Tryz.ntmps149
 go_upto_region 1 with fail
 generalize w.alloc (.cells #[.int .i64 fa,.int .i64 fk,.bool fp,.int .i64 (s.vr:Nat),.int .i64 nr,.slice fq info.length fc] 30)=W0 at*;have h0:=h.later hbA;have k1:=Zx h0;rw[hhu]at k1;have K1:=hide k1;have H0:=hide h0;have HHU:=hide hhu;clear k1 h0 hhu;go_wp2_with fail
 refine(Xa K1).mono ?_;rintro e w0 ⟨rfl,n0,rfl⟩;have hV:=(Xa H0).drewN n0;have hVb:Below w.heap.size w (W0.drewN n0):=below_drewN hbA n0;have hAV:(W0.drewN n0).heap[w.heap.size]?=some (.cells #[.int .i64 fa,.int .i64 fk,.bool fp,.int .i64 (s.vr:Nat),.int .i64 nr,.slice fq info.length fc] 30 (0,0)):=hA0;clear H0 K1 hA0 hbA;generalize W0.drewN n0=V at*;obtain⟨y0,y1,y2,y3,y4,y5⟩:=Xt hAV;have c0:=hV.c0;have c9:=hV.c9;have c17:=hV.c17;have fz:=hV.fz;have hne:¬w.heap.size=b:=by omega
 have hne2:¬b=w.heap.size:=by omega
 have hf2:((s.vr:Int)+1)%(c.m:Int)=((follow c s.vr:Nat):Int):=rfl;have hmI:((c.m:Int)==0)=false:=by have:=hV.cok.pos;simp;omega
 have hm8:c.m≤128:=by have:=hV.cok.m;omega
 have hm0:0<c.m:=hV.cok.pos;have hvr8:=hV.sok.vr;have hfl:=QW hV.cok s.vr;go_wp2_with fail
 go_quiet (fail)
 have hD:=hV.drewN nq;have hDb:Below w.heap.size w (V.drewN nq):=below_drewN hVb nq;have h2:=hD.wrote (s':={s with vr:=follow c s.vr}) ((Xb.refl _ _).setB 9 (.int .i64 (follow c s.vr:Nat))) (hD.hd.vr _) rfl rfl rfl rfl ⟨hD.sok.state,hD.sok.vs,hD.sok.va,hfl,hD.sok.vm,hD.sok.q20,hD.sok.q32,hD.sok.timer,hD.sok.tries,hD.sok.came⟩;have u2:Upd i own own w ((V.drewN nq).setCell ⟨b,9,none⟩ (.int .i64 (follow c s.vr:Nat))):=Upd.of hDb (hD.upd ((Xb.refl _ _).setB 9 (.int .i64 (follow c s.vr:Nat))));have hvD:=Xc hv (Xb.of (X:=fun _=>False) hDb) (fun _ _=>id);have hv2:((V.drewN nq).setCell ⟨b,9,none⟩ (.int .i64 (follow c s.vr:Nat))).ownsRow 0 5 1 (.slice fq info.length fc) info.length (Lib.byteCells info):=Xc hvD ((Xb.refl _ _).setB 9 (.int .i64 (follow c s.vr:Nat))) (fun k hk e=>by have:=(hfree k hk).1;rw[e,hD.ownb]at this;exact Xq _ _ this);have hbox2:((V.drewN nq).setCell ⟨b,9,none⟩ (.int .i64 (follow c s.vr:Nat))).heap[w.heap.size]?=some (.cells #[.int .i64 fa,.int .i64 fk,.bool fp,.int .i64 (s.vr:Nat),.int .i64 nr,.slice fq info.length fc] 30):=by rw[Below.heap_setCell _ _ _ _ (by show w.heap.size≠b;omega)];exact hAV
 have H2:=hide h2;have U2:=hide u2;have HV2:=hide hv2;have HBX:=hide hbox2;have HF:=hide hfree;clear h hV hVb hAV hD hDb h2 u2 hvD hv2 hbox2 hv hfree y0 y1 y2 y3 y4 y5;go_upto_region 5 with fail
 go_cut []from 21 (fun wx=>∃V2,wx=V2∧J5 V2 ((V.drewN nq).setCell ⟨b,9,none⟩ (.int .i64 (follow c s.vr:Nat))))
 case first=>
  go_region
  all_goals go_wp2_with fail
  all_goals go_meet
  all_goals exact⟨_,rfl,Xdj rfl rfl rfl rfl⟩
 case rest=>
 obtain⟨V4,hw4,hod⟩:=hcut;rw[hw4];clear hw4 c0 c9 c17 fz;have hbl:=hod.bel ((V.drewN nq).setCell ⟨b,9,none⟩ (.int .i64 (follow c s.vr:Nat))).heap.size;have h4:=(Xa H2).later hbl;have u4:=(Xa U2).trans (⟨Xb.of hbl,fun _ _=>rfl⟩:Upd i own own _ V4);have hv4:=Xc (Xa HV2) (Xb.of (X:=fun _=>False) hbl) (fun _ _=>id);have hbox4:V4.heap[w.heap.size]?=some (.cells #[.int .i64 fa,.int .i64 fk,.bool fp,.int .i64 (s.vr:Nat),.int .i64 nr,.slice fq info.length fc] 30):=by rw[hod.1];exact Xa HBX
 obtain⟨cp,ccap,hcm,hcc1,hcc2⟩:=h4.lcm.slice;subst hcm;have c18:V4.cell? ⟨b,18,none⟩=some (.slice cp s.came.length ccap):=h4.cell 18 rfl;have fz4:=h4.fz;obtain⟨z0,z1,z2,z3,z4,z5⟩:=Xt hbox4;obtain⟨i1,hi1,hy0,hy1,hy2⟩:=info_parts QC;have hhu2:XO c s=(s.busy||decide (c.room≤s.came.length)):=rfl;have hcl:s.came.length+1≤c.room:=by have:=hhu2.symm.trans (Xa HHU);simp at this;omega
 have hr16:=h4.cok.room16;have HO:=hide (World.ownsRow.alloc (World.ownsRow.drew h4.lcm.row) (.cells #[.slice fq info.length fc] 28));have HM1:Hid (s.came.length+1≤maxLen):=hide (by unfold maxLen;omega);have HM2:Hid ((s.came.length+1)*24≤140737488355328):=hide (by omega);have hlt4:=h4.lt;have hltx4:w.heap.size<V4.heap.size:=(Array.getElem?_eq_some_iff.1 hbox4).1;have H4:=hide h4;have HV4:=hide hv4;have U4:=hide u4;have HBX4:=hide hbox4;clear h4 hv4 u4 hbox4 HHU hcc1 hcc2 hr16 H2 U2 HV2 HBX hod hbl hhu2;go_wp2_with fail
 go_region_law ((refine Q5 _ (by rfl) _ _ 38 (by rfl) 0 28 i1 _ 1 24 Tryz.underlying38 hi1 hy0 hy1 hy2 rfl (by decide) _ _ _ (by rfl) (Xa HO) ⟨V4.heap.size,0,none⟩ 1 1 [.slice fq info.length fc] (by rfl) (by rfl) (cell_one_new _ _ _) (JK _ _ _) (Xa HM1) (Xa HM2) (Nat.zero_le _) ?_;intro cm5 w5 hrow5 hg5 hob5;obtain⟨p5,cap5,hs5⟩:=Yk hrow5;subst hs5;have hbl5:=((Below.refl V4.heap.size V4).drew).alloc (o:=.cells #[.slice fq info.length fc] 28) (Nat.le_refl _);have hh5:=(Xa H4).XaE hbl5 hg5 (fun k hk e=>Xz (i:=i) (j:=i) (p:=2) (q:=0) (by omega) (by omega) (.inr (by omega)) (((Xa H4).lcm.rown k hk).symm.trans e));have fz5:∀j,w5.frozen? ⟨b,j,none⟩=false:=(fun j=>Lib.frozen_of_heap hh5 j);have e18:w5.cell? ⟨b,18,none⟩=some (.slice cp s.came.length ccap):=(by rw[Lib.cell_of_heap hh5];rfl);have e17:w5.cell? ⟨b,17,none⟩=some (.bool s.Xu):=(by rw[Lib.cell_of_heap hh5];rfl)))
 all_goals
  have hS:=(Xa H4).Xf7 (Xa HV4) (Xa HF) hbl5 hg5 hrow5 (by rcases hob5 with e|e;exact .inl e;exact .inr ⟨_,e,Nat.le_refl _⟩) hcl;have hbox5:=Xe1 hbl5 hg5 (fun k hk=>(Xa H4).lcm.rown k hk) (Xq _ _) hn0 (Xa HBX4);obtain⟨v0,v1,v2,v3,v4,v5⟩:=Xt hbox5;have h6:=hS.1;have h7:=h6.wrote (s':={s with vr:=follow c s.vr,came:=s.came++[info],Xu:=false}) ((Xb.refl _ _).setB 17 (.bool false)) (h6.hd.Xu false) rfl rfl rfl rfl ⟨h6.sok.state,h6.sok.vs,h6.sok.va,h6.sok.vr,h6.sok.vm,h6.sok.q20,h6.sok.q32,h6.sok.timer,h6.sok.tries,h6.sok.came⟩;have u7:=((Xa U4).JY hS.2).trans (h6.upd ((Xb.refl _ _).setB 17 (.bool false)));have K7:=hide (ZP h7 false fp hl);have U7:=hide u7;clear hS h6 h7 u7 hbox5 hh5 hg5 hrow5 hob5 hbl5 H4 HV4 U4 HO HBX4;go_wp2_with fail
  refine(Xa K7).mono ?_;rintro e w8 ⟨rfl,own8,o8,oe8,h8,u8⟩;have HR:=hide (And.intro h8 ((Xa U7).trans u8));clear K7 U7 h8 u8;go_wp2
  first|go_end0|refine bodyPost_ret (results_none rfl _ _ _) rfl ?_
  exact⟨rfl,_,⟨_,_,_,_,_,_,(Xa HR).1⟩,(Xa HR).2⟩
end
section
variable {w:World}{own:Nat→Nat}{i b:Nat}{c:Cfg}{s:St}{cl:Bool}{q cm o ev:Value}{ce oe:List Value}
theorem JJ:Tryz.prog.underlying 38=some (.slice (Tryz.prog.elem 38)):=by kernel_rfl
theorem YZ.cut {t n:Nat}{v:Value}{l:List Msg}(h:YZ w own t v l)(hn:n≤l.length):∃p' c',YZ w own t (.slice p' (l.drop n).length c') (l.drop n)∧∀W,(Instr.sliceAt 38 v (some (.int .i64 (n:Int))) none none).run Tryz.prog W=.ok (.slice p' (l.drop n).length c') W:=by
 have e:Tryz.prog.elem 38=28:=by kernel_rfl
 obtain⟨p,cap,rfl,h1,h2,h3⟩:=h;rcases h3 with⟨rfl,rfl⟩|⟨g,off,cur,rfl,hg,hc,hs,he⟩
 ·have hl:l=[]:=List.length_eq_zero_iff.1 (by omega);subst hl;have hn0:n=0:=by simpa using hn
  subst hn0;refine⟨none,0,YZ.nil _ _ _,fun W=> ?_⟩;rw[run_sliceAt_slice W 38 _ _ _ _ JJ,run_slice_l W 38 _ _ _ JJ .i64 _ (by omega) (by simp),e];simp[go_sem]
 ·have e2:((n:Int)).toNat=n:=by omega
  by_cases hcn:cap=n
  ·refine ⟨some ⟨g,off,none⟩,cap-n,⟨_,_,rfl,by rw[List.length_drop];omega,by omega,.inr ⟨g,off,cur,rfl,hg,hc,by omega,fun j m hj=> ?_⟩⟩,fun W=> ?_⟩
   ·rw[List.getElem?_drop]at hj;have hjl:=(List.getElem?_eq_some_iff.1 hj).1;omega
   ·rw[run_sliceAt_slice W 38 _ _ _ _ JJ,run_slice_l W 38 _ _ _ JJ .i64 _ (by omega) (by omega),e,e2];simp[go_sem,hcn]
  ·refine ⟨some ⟨g,off+n,none⟩,cap-n,⟨_,_,rfl,by rw[List.length_drop];omega,by omega,.inr ⟨g,off+n,cur,rfl,hg,hc,by omega,fun j m hj=> ?_⟩⟩,fun W=> ?_⟩
   ·rw[List.getElem?_drop]at hj;obtain⟨x,hx1,hx2⟩:=he (n+j) m hj;exact⟨x,by rw[show off+n+j=off+(n+j) by omega];exact hx1,hx2⟩
   ·rw[run_sliceAt_slice W 38 _ _ _ _ JJ,run_slice_l W 38 _ _ _ JJ .i64 _ (by omega) (by omega),e,e2];simp[go_sem,hcn]
theorem QI (hc:c.ok)(h:St.ok c s){n:Nat}(hn:n<c.m):Xe c n s={s with vs:=if ahead c s s.vs<ahead c s n then n else s.vs,va:=n,queue:=s.queue.drop (ahead c s n),timer:=if 0<ahead c s n∧s.Xh=false then 0 else s.timer}:=by
 unfold Xe;by_cases h0:ahead c s n=0
 ·have e:=ahead_zero hc h.va hn h0;rw[if_pos h0,h0,if_neg (Nat.not_lt_zero _),if_neg (fun hh=>Nat.lt_irrefl _ hh.1),e];rfl
 ·rw[if_neg h0]
  have e:(if s.Xh then s.timer else 0)=if 0<ahead c s n∧s.Xh=false then 0 else s.timer:=by
   cases hp:s.Xh
   ·rw[if_neg (by simp),if_pos ⟨by omega,rfl⟩]
   ·rw[if_pos rfl,if_neg (by simp)]
  rw[e]
theorem XpC (h:TAt w own i b c s cl q cm o ev ce oe)(fa:Int)(fp:Bool)(cm0:Bool)(fns fnr:Int)(fq:Option Addr)(fl fc:Nat)(hl:s.out.length≤2199023255552)(hl2:s.events.length≤2199023255552):
  Calls Tryz.prog 126 #[.pointer (some ⟨b,0,none⟩),.agg #[.int .i64 fa,.int .i64 5,.bool fp,.int .i64 fns,.int .i64 fnr,.slice fq fl fc],.bool cm0] w fun e w'=>XA i b c (accept c fp 2 s) cl own w e w':=by
 have hlt:=h.lt;have hn0:=h.Xp w.heap.size (Nat.le_refl _);have k1:=fun V (hV:Below w.heap.size w V)=>YG (h.later hV) 2 2 (by omega) hl2
 skip
 have K1:=hide k1;clear h k1;go_enter Tryz.func126,Tryz.ntmps126
 go_wp2_with fail
 refine(Xa K1 _ ?_).mono ?_
 ·exact (Below.refl _ w).alloc (Nat.le_refl _) _
 rintro e w1 ⟨rfl,own1,⟨q1,cm1,o1,ev1,ce1,oe1,h1⟩,u1⟩;have HU1:=hide (u1.of ((Below.refl _ w).alloc (Nat.le_refl _) _));obtain⟨y0,y1,y2,y3,y4,y5⟩:=Xt (Qh u1 hn0);have k2:=YR h1 false ⟨0,7,fp,0,0,[]⟩ none 0 (Y6 _) hl;unfold frV at k2;have K2:=hide k2;clear h1 u1 K1 k2;go_wp2_with fail
 refine(Xa K2).mono ?_;rintro e w2 ⟨rfl,own2,o2,oe2,h2,u2⟩;have HR:=hide (And.intro h2 ((Xa HU1).trans u2));clear h2 u2 K2 HU1 y0 y1 y2 y3 y4 y5;go_wp2
 go_end0
 exact⟨rfl,_,⟨_,_,_,_,_,_,(Xa HR).1⟩,(Xa HR).2⟩
theorem XpD (h:TAt w own i b c s cl q cm o ev ce oe)(fa:Int)(fp:Bool)(cm0:Bool)(fns fnr:Int)(fq:Option Addr)(fl fc:Nat)(hl:s.out.length≤2199023255552)(hl2:s.events.length≤2199023255552):
  Calls Tryz.prog 126 #[.pointer (some ⟨b,0,none⟩),.agg #[.int .i64 fa,.int .i64 6,.bool fp,.int .i64 fns,.int .i64 fnr,.slice fq fl fc],.bool cm0] w fun e w'=>XA i b c (agree c fp s) cl own w e w':=by
 have hlt:=h.lt;have hn0:=h.Xp w.heap.size (Nat.le_refl _);have k1:=fun V (hV:Below w.heap.size w V)=>YR (h.later hV) false ⟨0,7,fp,0,0,[]⟩ none 0 (Y6 _) hl
 unfold frV at k1;have K1:=hide k1;clear h k1;go_enter Tryz.func126,Tryz.ntmps126
 go_wp2_with fail
 refine(Xa K1 _ ?_).mono ?_
 ·exact (Below.refl _ w).alloc (Nat.le_refl _) _
 rintro e w1 ⟨rfl,own1,o1,oe1,h1,u1⟩;have HU1:=hide (u1.of ((Below.refl _ w).alloc (Nat.le_refl _) _));obtain⟨y0,y1,y2,y3,y4,y5⟩:=Xt (Qh u1 hn0);have k2:=YG h1 0 3 (by omega) hl2;skip
 have K2:=hide k2;clear h1 u1 K1 k2;go_wp2_with fail
 refine(Xa K2).mono ?_;rintro e w2 ⟨rfl,own2,⟨q2,cm2,o2,ev2,ce2,oe2,h2⟩,u2⟩;have HR:=hide (And.intro h2 ((Xa HU1).trans u2));clear h2 u2 K2 HU1 y0 y1 y2 y3 y4 y5;go_wp2
 go_end0
 exact⟨rfl,_,⟨_,_,_,_,_,_,(Xa HR).1⟩,(Xa HR).2⟩
theorem XpF (h:TAt w own i b c s cl q cm o ev ce oe)(fa:Int)(fp:Bool)(cm0:Bool)(fns fnr:Int)(fq:Option Addr)(fl fc:Nat)(hl2:s.events.length≤2199023255552):
  Calls Tryz.prog 126 #[.pointer (some ⟨b,0,none⟩),.agg #[.int .i64 fa,.int .i64 8,.bool fp,.int .i64 fns,.int .i64 fnr,.slice fq fl fc],.bool cm0] w fun e w'=>XA i b c (Zi 3 s) cl own w e w':=by
 have hlt:=h.lt;have hn0:=h.Xp w.heap.size (Nat.le_refl _);have k1:=fun V (hV:Below w.heap.size w V)=>YG (h.later hV) 0 3 (by omega) hl2
 skip
 have K1:=hide k1;clear h k1;go_enter Tryz.func126,Tryz.ntmps126
 go_wp2_with fail
 refine(Xa K1 _ ?_).mono ?_
 ·exact (Below.refl _ w).alloc (Nat.le_refl _) _
 rintro e w1 ⟨rfl,own1,⟨q1,cm1,o1,ev1,ce1,oe1,h1⟩,u1⟩;have HU1:=hide (u1.of ((Below.refl _ w).alloc (Nat.le_refl _) _));have HR:=hide (And.intro h1 (Xa HU1));clear h1 u1 K1 HU1;go_wp2
 go_end0
 exact⟨rfl,_,⟨_,_,_,_,_,_,(Xa HR).1⟩,(Xa HR).2⟩
theorem XpE (h:TAt w own i b c s cl q cm o ev ce oe)(fa:Int)(fp:Bool)(cm0:Bool)(fns fnr:Int)(fq:Option Addr)(fl fc:Nat)(hl:s.out.length≤2199023255552)(hl2:s.events.length≤2199023255552):
  Calls Tryz.prog 126 #[.pointer (some ⟨b,0,none⟩),.agg #[.int .i64 fa,.int .i64 7,.bool fp,.int .i64 fns,.int .i64 fnr,.slice fq fl fc],.bool cm0] w fun e w'=>XA i b c (Xaj c (tell 2 s)) cl own w e w':=by
 have hlt:=h.lt;have hn0:=h.Xp w.heap.size (Nat.le_refl _);have k1:=fun V (hV:Below w.heap.size w V)=>Xcj (h.later hV) 2 hl2
 skip
 have K1:=hide k1;clear h k1;go_enter Tryz.func126,Tryz.ntmps126
 go_wp2_with fail
 refine(Xa K1 _ ?_).mono ?_
 ·exact (Below.refl _ w).alloc (Nat.le_refl _) _
 rintro e w1 ⟨rfl,own1,⟨q1,cm1,o1,ev1,ce1,oe1,h1⟩,u1⟩;have HU1:=hide (u1.of ((Below.refl _ w).alloc (Nat.le_refl _) _));obtain⟨y0,y1,y2,y3,y4,y5⟩:=Xt (Qh u1 hn0);have k2:=XbG h1 1 5 (by omega) hl;skip
 have K2:=hide k2;clear h1 u1 K1 k2;go_wp2_with fail
 refine(Xa K2).mono ?_;rintro e w2 ⟨rfl,own2,⟨q2,cm2,o2,ev2,ce2,oe2,h2⟩,u2⟩;have HR:=hide (And.intro h2 ((Xa HU1).trans u2));clear h2 u2 K2 HU1 y0 y1 y2 y3 y4 y5;go_wp2
 go_end0
 exact⟨rfl,_,⟨_,_,_,_,_,_,(Xa HR).1⟩,(Xa HR).2⟩
theorem XpG (h:TAt w own i b c s cl q cm o ev ce oe)(fa:Int)(fp:Bool)(cm0:Bool)(fns fnr:Int)(fq:Option Addr)(fl fc:Nat)(hl:s.out.length≤2199023255552)(hl2:s.events.length≤2199023255552):
  Calls Tryz.prog 126 #[.pointer (some ⟨b,0,none⟩),.agg #[.int .i64 fa,.int .i64 9,.bool fp,.int .i64 fns,.int .i64 fnr,.slice fq fl fc],.bool cm0] w fun e w'=>XA i b c (Xaj c (tell 2 s)) cl own w e w':=by
 have hlt:=h.lt;have hn0:=h.Xp w.heap.size (Nat.le_refl _);have k1:=fun V (hV:Below w.heap.size w V)=>Xcj (h.later hV) 2 hl2
 skip
 have K1:=hide k1;clear h k1;go_enter Tryz.func126,Tryz.ntmps126
 go_wp2_with fail
 refine(Xa K1 _ ?_).mono ?_
 ·exact (Below.refl _ w).alloc (Nat.le_refl _) _
 rintro e w1 ⟨rfl,own1,⟨q1,cm1,o1,ev1,ce1,oe1,h1⟩,u1⟩;have HU1:=hide (u1.of ((Below.refl _ w).alloc (Nat.le_refl _) _));obtain⟨y0,y1,y2,y3,y4,y5⟩:=Xt (Qh u1 hn0);have k2:=XbG h1 1 5 (by omega) hl;skip
 have K2:=hide k2;clear h1 u1 K1 k2;go_wp2_with fail
 refine(Xa K2).mono ?_;rintro e w2 ⟨rfl,own2,⟨q2,cm2,o2,ev2,ce2,oe2,h2⟩,u2⟩;have HR:=hide (And.intro h2 ((Xa HU1).trans u2));clear h2 u2 K2 HU1 y0 y1 y2 y3 y4 y5;go_wp2
 go_end0
 exact⟨rfl,_,⟨_,_,_,_,_,_,(Xa HR).1⟩,(Xa HR).2⟩
end
section
variable {w:World}{own:Nat→Nat}{i b:Nat}{c:Cfg}{s:St}{cl:Bool}{q cm o ev:Value}{ce oe:List Value}
theorem Xgk {own1:Nat→Nat}{V w1:World}{k:Nat}{x:Obj}(u:Upd i own own1 V w1)(hx:V.heap[k]?=some x)(h0:own k=0):w1.heap[k]?=some x:=by
 rw[u.keeps.block k (Array.getElem?_eq_some_iff.1 hx).1 (by rintro⟨p,_,e⟩;rw[h0]at e;exact Xq _ _ e.symm)];exact hx
theorem XnA (h:TAt w own i b c s cl q cm o ev ce oe)(fa fk:Int)(fp:Bool)(fns:Int)(n:Nat)(hn:n<c.m)(fq:Option Addr)(fl fc:Nat)(n5:(fk==5)=false)(n6:(fk==6)=false)(n7:(fk==7)=false)(n8:(fk==8)=false)(n9:(fk==9)=false)(hbad:ahead c s s.vm<ahead c s n)(hl:s.out.length≤2199023255552)(hl2:s.events.length≤2199023255552):
  Calls Tryz.prog 126 #[.pointer (some ⟨b,0,none⟩),.agg #[.int .i64 fa,.int .i64 fk,.bool fp,.int .i64 fns,.int .i64 (n:Nat),.slice fq fl fc],.bool true] w fun e w'=>XA i b c (tell 2 (report c fp {over s with state:=4})) cl own w e w':=by
 have hlt:=h.lt;have hn0:=h.Xp w.heap.size (Nat.le_refl _);have hA0:=Xg w (.cells #[.int .i64 fa,.int .i64 fk,.bool fp,.int .i64 fns,.int .i64 (n:Nat),.slice fq fl fc] 30);have hbA:=(Below.refl w.heap.size w).alloc (Nat.le_refl _) (.cells #[.int .i64 fa,.int .i64 fk,.bool fp,.int .i64 fns,.int .i64 (n:Nat),.slice fq fl fc] 30);go_enter Tryz.func126,Tryz.ntmps126
 go_upto_region 1 with fail
 generalize w.alloc (.cells #[.int .i64 fa,.int .i64 fk,.bool fp,.int .i64 fns,.int .i64 (n:Nat),.slice fq fl fc] 30)=W0 at*;have h0:=h.later hbA;have k14:=fun N=>XM (h0.drewN N) s.va n h0.sok.va hn
 have hah:(n+c.m-s.va)%c.m=ahead c s n:=rfl;rw[hah]at k14;obtain⟨y0,y1,y2,y3,y4,y5⟩:=Xt hA0;have c8:=h0.c8;have H0:=hide h0;have HA0:=hide hA0;have HBA:=hide hbA;clear h0 hA0 hbA hah;generalize hx:ahead c s n=x at*;go_wp2_with fail
 go_quiet (first|(go_at_call 133;exact Calls.quiet_of (k14 _)))
 have hV:=(Xa H0).drewN nq;have hVb:Below w.heap.size w (W0.drewN nq):=below_drewN (Xa HBA) nq;have hAV:(W0.drewN nq).heap[w.heap.size]?=some (.cells #[.int .i64 fa,.int .i64 fk,.bool fp,.int .i64 fns,.int .i64 (n:Nat),.slice fq fl fc] 30 (0,0)):=Xa HA0;clear H0 HA0 HBA k14 y0 y1 y2 y3 y4 y5 c8;generalize W0.drewN nq=V at*;have k15:=fun N=>XM (hV.drewN N) s.va s.vm hV.sok.va hV.sok.vm
 have hah:(s.vm+c.m-s.va)%c.m=ahead c s s.vm:=rfl;rw[hah]at k15;obtain⟨y0,y1,y2,y3,y4,y5⟩:=Xt hAV;have c8:=hV.c8;have c10:=hV.c10;have H1:=hide hV;have HAV:=hide hAV;have HVB:=hide hVb;clear hV hAV hVb hah;generalize hy:ahead c s s.vm=y at*;have hgt:(y:Int)<(x:Int):=by omega
 clear hx hy;go_wp2_with fail
 go_quiet (first|(go_at_call 133;exact Calls.quiet_of (k15 _)))
 have hV:=(Xa H1).drewN nq;have hVb:=below_drewN (Xa HVB) nq;have hAV:(V.drewN nq).heap[w.heap.size]?=some (.cells #[.int .i64 fa,.int .i64 fk,.bool fp,.int .i64 fns,.int .i64 (n:Nat),.slice fq fl fc] 30 (0,0)):=Xa HAV;have K2:=hide (YG hV 4 2 (by omega) hl2);have HVB2:=hide hVb;have HAV2:=hide hAV;clear H1 HVB HAV k15 y0 y1 y2 y3 y4 y5 c8 c10 hV hVb hAV h;generalize V.drewN nq=V2 at*;go_wp2_with fail
 refine(Xa K2).mono ?_;rintro e w1 ⟨rfl,own1,⟨q1,cm1,o1,ev1,ce1,oe1,h1⟩,u1⟩;obtain⟨y0,y1,y2,y3,y4,y5⟩:=Xt (Xgk u1 (Xa HAV2) hn0);have K3:=hide (Xbm h1 fp hl);have HU:=hide (Upd.of (Xa HVB2) u1);clear h1 u1 K2 HVB2 HAV2;go_wp2_with fail
 refine(Xa K3).mono ?_;rintro e w2 ⟨rfl,own2,o2,oe2,h3,u3⟩;have HR:=hide (And.intro h3 ((Xa HU).trans u3));clear K3 h3 u3 HU y0 y1 y2 y3 y4 y5;go_wp2
 first|go_end0|refine bodyPost_ret (results_none rfl _ _ _) rfl ?_
 exact⟨rfl,_,⟨_,_,_,_,_,_,(Xa HR).1⟩,(Xa HR).2⟩
theorem XnB (h:TAt w own i b c s cl q cm o ev ce oe)(fa fk:Int)(fp:Bool)(fns:Int)(n:Nat)(hn:n<c.m)(fq:Option Addr)(fl fc:Nat)(n5:(fk==5)=false)(n6:(fk==6)=false)(n7:(fk==7)=false)(n8:(fk==8)=false)(n9:(fk==9)=false)(hbad:ahead c s s.vm<ahead c s n)(hl:s.out.length≤2199023255552)(hl2:s.events.length≤2199023255552):
  Calls Tryz.prog 126 #[.pointer (some ⟨b,0,none⟩),.agg #[.int .i64 fa,.int .i64 fk,.bool fp,.int .i64 fns,.int .i64 (n:Nat),.slice fq fl fc],.bool false] w fun e w'=>XA i b c (tell 2 (report c false {over s with state:=4})) cl own w e w':=by
 have hlt:=h.lt;have hn0:=h.Xp w.heap.size (Nat.le_refl _);have hA0:=Xg w (.cells #[.int .i64 fa,.int .i64 fk,.bool fp,.int .i64 fns,.int .i64 (n:Nat),.slice fq fl fc] 30);have hbA:=(Below.refl w.heap.size w).alloc (Nat.le_refl _) (.cells #[.int .i64 fa,.int .i64 fk,.bool fp,.int .i64 fns,.int .i64 (n:Nat),.slice fq fl fc] 30);go_enter Tryz.func126,Tryz.ntmps126
 go_upto_region 1 with fail
 generalize w.alloc (.cells #[.int .i64 fa,.int .i64 fk,.bool fp,.int .i64 fns,.int .i64 (n:Nat),.slice fq fl fc] 30)=W0 at*;have h0:=h.later hbA;have k14:=fun N=>XM (h0.drewN N) s.va n h0.sok.va hn
 have hah:(n+c.m-s.va)%c.m=ahead c s n:=rfl;rw[hah]at k14;obtain⟨y0,y1,y2,y3,y4,y5⟩:=Xt hA0;have c8:=h0.c8;have H0:=hide h0;have HA0:=hide hA0;have HBA:=hide hbA;clear h0 hA0 hbA hah;generalize hx:ahead c s n=x at*;go_wp2_with fail
 go_quiet (first|(go_at_call 133;exact Calls.quiet_of (k14 _)))
 have hV:=(Xa H0).drewN nq;have hVb:Below w.heap.size w (W0.drewN nq):=below_drewN (Xa HBA) nq;have hAV:(W0.drewN nq).heap[w.heap.size]?=some (.cells #[.int .i64 fa,.int .i64 fk,.bool fp,.int .i64 fns,.int .i64 (n:Nat),.slice fq fl fc] 30 (0,0)):=Xa HA0;clear H0 HA0 HBA k14 y0 y1 y2 y3 y4 y5 c8;generalize W0.drewN nq=V at*;have k15:=fun N=>XM (hV.drewN N) s.va s.vm hV.sok.va hV.sok.vm
 have hah:(s.vm+c.m-s.va)%c.m=ahead c s s.vm:=rfl;rw[hah]at k15;obtain⟨y0,y1,y2,y3,y4,y5⟩:=Xt hAV;have c8:=hV.c8;have c10:=hV.c10;have H1:=hide hV;have HAV:=hide hAV;have HVB:=hide hVb;clear hV hAV hVb hah;generalize hy:ahead c s s.vm=y at*;have hgt:(y:Int)<(x:Int):=by omega
 clear hx hy;go_wp2_with fail
 go_quiet (first|(go_at_call 133;exact Calls.quiet_of (k15 _)))
 have hV:=(Xa H1).drewN nq;have hVb:=below_drewN (Xa HVB) nq;have hAV:(V.drewN nq).heap[w.heap.size]?=some (.cells #[.int .i64 fa,.int .i64 fk,.bool fp,.int .i64 fns,.int .i64 (n:Nat),.slice fq fl fc] 30 (0,0)):=Xa HAV;have K2:=hide (YG hV 4 2 (by omega) hl2);have HVB2:=hide hVb;have HAV2:=hide hAV;clear H1 HVB HAV k15 y0 y1 y2 y3 y4 y5 c8 c10 hV hVb hAV h;generalize V.drewN nq=V2 at*;go_wp2_with fail
 refine(Xa K2).mono ?_;rintro e w1 ⟨rfl,own1,⟨q1,cm1,o1,ev1,ce1,oe1,h1⟩,u1⟩;obtain⟨y0,y1,y2,y3,y4,y5⟩:=Xt (Xgk u1 (Xa HAV2) hn0);have K3:=hide (Xbm h1 false hl);have HU:=hide (Upd.of (Xa HVB2) u1);clear h1 u1 K2 HVB2 HAV2;go_wp2_with fail
 refine(Xa K3).mono ?_;rintro e w2 ⟨rfl,own2,o2,oe2,h3,u3⟩;have HR:=hide (And.intro h3 ((Xa HU).trans u3));clear K3 h3 u3 HU y0 y1 y2 y3 y4 y5;go_wp2
 first|go_end0|refine bodyPost_ret (results_none rfl _ _ _) rfl ?_
 exact⟨rfl,_,⟨_,_,_,_,_,_,(Xa HR).1⟩,(Xa HR).2⟩
end
end Go.Proofs.YtkalonhalhdlaaaGreatDoor
