import Derived.Test.YtkalonhalhdlaaaGreatDoorVBits3
set_option maxHeartbeats 8000000
set_option maxRecDepth 1000000
namespace Go.Proofs.YtkalonhalhdlaaaGreatDoor
open Go.RowKit
theorem XdV {B wb M i:Nat}{ss:Value}{x:Lw}{w:World}{o:OpV}(h:Yt B w wb ss x)(hsm:x.small M)(hM:M+o.s.size≤200000000000)(hB:B≤w.heap.size)(hi:i<x.es.length)(hk:o.kind=4)(hlv:∃lp ln lc,o.lv=.slice lp ln lc):
  Calls Tryz.prog 15 #[.pointer (some ⟨wb,0,none⟩),Jz x.es[i],opV o] w fun e w'=>e=.returned (.bool true)∧Lfs x B wb ss (M+o.s.size+1) w w':=by
 have HF:Hid (∀ V,Below w.heap.size w V→Calls Tryz.prog 31 #[.pointer (some ⟨wb,0,none⟩),Jz x.es[i],.string o.s] V fun e w'=>e=.returned (.bool true)∧Lfs x B wb ss (M+o.s.size+1) w w'):=by
  intro V hV;refine(XeZ (h.later hV) hsm hM (Nat.le_trans hB hV.size) hi).mono ?_;rintro e w' ⟨rfl,hL⟩;exact⟨rfl,hL.behind hV hB⟩
 unfold Jz at HF⊢;generalize x.es[i].hb=hb at*;generalize x.es[i].rb=rb at*;obtain⟨lp,ln,lc,hlv⟩:=hlv;obtain⟨kind,a,b,d,s,lv,⟨fa,fk,fp,fns,fnr,info⟩,fq,fc,x0,x1,x2,x3,x4,x5⟩:=o;simp only at hlv hk hM HF⊢;subst hlv hk;unfold opV;simp only;clear h hsm;have hE0:=Xg w (.cells #[.pointer (some ⟨hb,0,none⟩),.pointer (some ⟨rb,0,none⟩)] 51);have hbE:=(Below.refl w.heap.size w).alloc (Nat.le_refl _) (.cells #[.pointer (some ⟨hb,0,none⟩),.pointer (some ⟨rb,0,none⟩)] 51);have hzE:=Xk w (.cells #[.pointer (some ⟨hb,0,none⟩),.pointer (some ⟨rb,0,none⟩)] 51);have hA0:=Xg (w.alloc (.cells #[.pointer (some ⟨hb,0,none⟩),.pointer (some ⟨rb,0,none⟩)] 51)) (.cells #[.int .i64 4,.int .i64 a,.int .i64 b,.int .i64 d,.string s,.slice lp ln lc,.int .i64 fa,.int .i64 fk,.bool fp,.int .i64 fns,.int .i64 fnr,.slice fq info.length fc,.int .i64 x0,.int .i64 x1,.int .i64 x2,.int .i64 x3,.int .i64 x4,.int .i64 x5] 34);have hbA:=hbE.alloc (by rw[hzE];omega) (.cells #[.int .i64 4,.int .i64 a,.int .i64 b,.int .i64 d,.string s,.slice lp ln lc,.int .i64 fa,.int .i64 fk,.bool fp,.int .i64 fns,.int .i64 fnr,.slice fq info.length fc,.int .i64 x0,.int .i64 x1,.int .i64 x2,.int .i64 x3,.int .i64 x4,.int .i64 x5] 34);have hE1:=((Below.refl (w.alloc (.cells #[.pointer (some ⟨hb,0,none⟩),.pointer (some ⟨rb,0,none⟩)] 51)).heap.size _).alloc (Nat.le_refl _) (.cells #[.int .i64 4,.int .i64 a,.int .i64 b,.int .i64 d,.string s,.slice lp ln lc,.int .i64 fa,.int .i64 fk,.bool fp,.int .i64 fns,.int .i64 fnr,.slice fq info.length fc,.int .i64 x0,.int .i64 x1,.int .i64 x2,.int .i64 x3,.int .i64 x4,.int .i64 x5] 34)).block w.heap.size (by rw[hzE];omega);rw[hE0]at hE1;rw[hzE]at hA0;go_enter Tryz.func15,Tryz.ntmps15
 go_upto_region 1 with fail
 generalize hWA:(w.alloc (.cells #[.pointer (some ⟨hb,0,none⟩),.pointer (some ⟨rb,0,none⟩)] 51)).alloc (.cells #[.int .i64 4,.int .i64 a,.int .i64 b,.int .i64 d,.string s,.slice lp ln lc,.int .i64 fa,.int .i64 fk,.bool fp,.int .i64 fns,.int .i64 fnr,.slice fq info.length fc,.int .i64 x0,.int .i64 x1,.int .i64 x2,.int .i64 x3,.int .i64 x4,.int .i64 x5] 34)=WA at*;clear hWA hE0 hbE hzE;generalize hnB:w.heap.size=nB at*;have c0:WA.cell? ⟨nB,0,none⟩=some (.pointer (some ⟨hb,0,none⟩)):=by rw[Lib.cell_of_heap hE1];rfl
 have c1:WA.cell? ⟨nB,1,none⟩=some (.pointer (some ⟨rb,0,none⟩)):=by rw[Lib.cell_of_heap hE1];rfl
 have y0:WA.cell? ⟨nB+1,0,none⟩=some (.int .i64 4):=by rw[Lib.cell_of_heap hA0];rfl
 have y4:WA.cell? ⟨nB+1,4,none⟩=some (.string s):=by rw[Lib.cell_of_heap hA0];rfl
 have KF:=hide (Xa HF WA hbA);clear HF hA0 hE1 hbA;go_wp2_with fail
 refine(Xa KF).mono ?_;rintro e W1 ⟨rfl,hL⟩;have HL:=hide hL;clear hL KF;go_wp2
 go_ret
 exact⟨rfl,Xa HL⟩
theorem Xne {WA:World}{ls:List ByteArray}{k:Nat}{vm:Value}{em:List Value}{y W y2:World}{v2:Value}{c2 g:Nat}{s:ByteArray}{o:Obj}(hlm:em.length=k)(h2:Ql WA ls y vm em)(h4:Below WA.heap.size WA y)(hb:Below y.heap.size y W)(hl:ByR W g s)(hs:ls[k]?=some s)
  (hown:y2.ownsRow WA.heap.size 28 1 v2 (em.length+1) (em++[.slice (some ⟨g,0,none⟩) s.size c2])) (hg:(W.alloc o).grownBy y2 vm.ownBlock):
  Ql WA ls y2 v2 (em++[.slice (some ⟨g,0,none⟩) s.size c2])∧Below WA.heap.size WA y2:=by
 have hbA:Below y.heap.size y (W.alloc o):=hb.alloc hb.size o;have hz:=h4.size;have hm2:=h2.later hbA;have hG:=Xb.grown hg;have hmlo:∀q,some q=vm.ownBlock→WA.heap.size≤q:=fun q hq=>(h2.row.lt q hq.symm).1
 have hby:ByR (W.alloc o) g s:=hl.keeps (X:=fun _=>False) (Xb.of ((Below.refl W.heap.size W).alloc (Nat.le_refl _) o)) id;exact⟨hm2.push (by rw[hlm];exact hs) hby hown hg,h4.trans ((hbA.mono hz).trans (Zy hG hmlo (Nat.le_trans hz hbA.size)))⟩
theorem XdW {B wb M i lc:Nat}{ss:Value}{x:Lw}{w:World}{o:OpV}{lp:Option Addr}{ls:List ByteArray}(h:Yt B w wb ss x)(hsm:x.small M)(hM:M+(1064*ls.length+8)≤200000000000)(hB:B≤w.heap.size)(hi:i<x.es.length)(hk:o.kind=5)(hlv:o.lv=.slice lp ls.length lc)(hT:Qo w lp ls)(hn:ls.length≤1048576)(hsz:∀s∈ls,s.size≤1048576)(hb64: -9223372036854775808≤o.b∧o.b≤9223372036854775807)(hd64: -9223372036854775808≤o.d∧o.d≤9223372036854775807):
  Calls Tryz.prog 15 #[.pointer (some ⟨wb,0,none⟩),Jz x.es[i],opV o] w fun e w'=>e=.returned (.bool true)∧Lfs x B wb ss (M+(1064*ls.length+8)+1) w w':=by
 have HF:Hid (∀(V:World) (t:ByteArray),Below w.heap.size w V→t.size≤1064*ls.length+8→Calls Tryz.prog 31 #[.pointer (some ⟨wb,0,none⟩),Jz x.es[i],.string t] V fun e w'=>e=.returned (.bool true)∧Lfs x B wb ss (M+(1064*ls.length+8)+1) w w'):=by
  intro V t hV ht;refine(XeZ (h.later hV) hsm (by omega) (Nat.le_trans hB hV.size) hi).mono ?_;rintro e w' ⟨rfl,x',h1,h2,h3⟩;exact⟨rfl,Lfs.behind ⟨x',h1,h2.mono (by omega),h3⟩ hV hB⟩
 unfold Jz at HF⊢;generalize x.es[i].hb=hb at*;generalize x.es[i].rb=rb at*;obtain⟨kind,a,b,d,s,lv,⟨fa,fk,fp,fns,fnr,info⟩,fq,fc,x0,x1,x2,x3,x4,x5⟩:=o;simp only at hlv hk hb64 hd64 HF⊢;subst hlv hk;unfold opV;simp only;clear h hsm;have hE0:=Xg w (.cells #[.pointer (some ⟨hb,0,none⟩),.pointer (some ⟨rb,0,none⟩)] 51);have hbE:=(Below.refl w.heap.size w).alloc (Nat.le_refl _) (.cells #[.pointer (some ⟨hb,0,none⟩),.pointer (some ⟨rb,0,none⟩)] 51);have hzE:=Xk w (.cells #[.pointer (some ⟨hb,0,none⟩),.pointer (some ⟨rb,0,none⟩)] 51);have hA0:=Xg (w.alloc (.cells #[.pointer (some ⟨hb,0,none⟩),.pointer (some ⟨rb,0,none⟩)] 51)) (.cells #[.int .i64 5,.int .i64 a,.int .i64 b,.int .i64 d,.string s,.slice lp ls.length lc,.int .i64 fa,.int .i64 fk,.bool fp,.int .i64 fns,.int .i64 fnr,.slice fq info.length fc,.int .i64 x0,.int .i64 x1,.int .i64 x2,.int .i64 x3,.int .i64 x4,.int .i64 x5] 34);have hbA:=hbE.alloc (by rw[hzE];omega) (.cells #[.int .i64 5,.int .i64 a,.int .i64 b,.int .i64 d,.string s,.slice lp ls.length lc,.int .i64 fa,.int .i64 fk,.bool fp,.int .i64 fns,.int .i64 fnr,.slice fq info.length fc,.int .i64 x0,.int .i64 x1,.int .i64 x2,.int .i64 x3,.int .i64 x4,.int .i64 x5] 34);have hE1:=((Below.refl (w.alloc (.cells #[.pointer (some ⟨hb,0,none⟩),.pointer (some ⟨rb,0,none⟩)] 51)).heap.size _).alloc (Nat.le_refl _) (.cells #[.int .i64 5,.int .i64 a,.int .i64 b,.int .i64 d,.string s,.slice lp ls.length lc,.int .i64 fa,.int .i64 fk,.bool fp,.int .i64 fns,.int .i64 fnr,.slice fq info.length fc,.int .i64 x0,.int .i64 x1,.int .i64 x2,.int .i64 x3,.int .i64 x4,.int .i64 x5] 34)).block w.heap.size (by rw[hzE];omega);rw[hE0]at hE1;rw[hzE]at hA0;go_enter Tryz.func15,Tryz.ntmps15
 go_upto_region 1 with fail
 generalize hWA:(w.alloc (.cells #[.pointer (some ⟨hb,0,none⟩),.pointer (some ⟨rb,0,none⟩)] 51)).alloc (.cells #[.int .i64 5,.int .i64 a,.int .i64 b,.int .i64 d,.string s,.slice lp ls.length lc,.int .i64 fa,.int .i64 fk,.bool fp,.int .i64 fns,.int .i64 fnr,.slice fq info.length fc,.int .i64 x0,.int .i64 x1,.int .i64 x2,.int .i64 x3,.int .i64 x4,.int .i64 x5] 34)=WA at*;clear hWA hE0 hbE hzE;generalize hnB:w.heap.size=nB at*;have c0:WA.cell? ⟨nB,0,none⟩=some (.pointer (some ⟨hb,0,none⟩)):=by rw[Lib.cell_of_heap hE1];rfl
 have c1:WA.cell? ⟨nB,1,none⟩=some (.pointer (some ⟨rb,0,none⟩)):=by rw[Lib.cell_of_heap hE1];rfl
 have y0:WA.cell? ⟨nB+1,0,none⟩=some (.int .i64 5):=by rw[Lib.cell_of_heap hA0];rfl
 have hTA:Qo WA lp ls:=hT.below hbA (by omega);have hlA:nB+1<WA.heap.size:=(Array.getElem?_eq_some_iff.1 hA0).1;obtain⟨i1,hi1,hq0,hq1,hq2⟩:=info_parts Xcn;have HBA:=hide hbA;have HT:=hide hTA;have HA0:=hide hA0;have HE1:=hide hE1;clear hT hTA hbA hA0 hE1 c0 c1;go_wp2
 go_loopw [7,8] (fun vm i wr=>∃(k:Nat) (em:List Value),k≤ls.length∧i=.int .i64 k∧em.length=k∧Ql WA ls wr vm em∧Below WA.heap.size WA wr) (fun _ i _=>ls.length -(intOf i).toNat)
 case atStart=>exact⟨0,[],Nat.zero_le _,rfl,rfl,⟨World.ownsRow_nil _ _ _ _,fun i v hv=>by simp at hv⟩,Below.refl _ _⟩
 case round=>
  obtain⟨k,em,hk,rfl,hlm,hI,hbr⟩:=hrel;clear y0;have hAr:=(hbr.block (nB+1) hlA).trans (Xa HA0);have y5:wr.cell? ⟨nB+1,5,none⟩=some (.slice lp ls.length lc):=by rw[Lib.cell_of_heap hAr];rfl
  obtain⟨pm,cm,e2,_⟩:=Xf hI.row;rw[hlm]at e2;subst e2;by_cases hlt:k<ls.length
  ·rcases (Xa HT)with e0|⟨tb,off,rfl,htb,hct⟩
   ·subst e0;simp at hlt
   ·have ct:=(hbr.cell (p:=⟨tb,off+k,none⟩) htb).trans (hct k hlt);have hsl:ls[k]?=some ls[k]:=List.getElem?_eq_getElem hlt;have hss:=hsz _ (List.getElem_mem hlt);generalize ls[k]=s at*;have hcv:=Q8 wr s;have hbc:=bytesWorld_below wr s;have hby:ByR (Lib.bytesWorld wr 5 s) wr.heap.size s:=⟨⟨_,_,Lib.bytesWorld_at_new wr _ s⟩,ZC wr s⟩;have hlC:=hby.lt;have hz4:=hbr.size;generalize Lib.bytesWorld wr 5 s=WC at*;generalize grownCap wr s.size 0 5=gc at*;have hzC:=hbc.size;have hrm:=(hI.later hbc).row;rw[hlm]at hrm;have HRM:=hide (World.ownsRow.alloc hrm (.cells #[.slice (some ⟨wr.heap.size,0,none⟩) s.size gc] 28));have HQ:=hide (And.intro hI (And.intro hbr (And.intro hbc (And.intro hby (And.intro hsl hlm)))));clear hrm hbc hby hAr hI hbr hsl hct hlm hsz;go_wp2_with (at_builtin;refine wpList_append_own_at _ rfl _ _ 38 rfl WA.heap.size 28 i1 _ 1 24 Tryz.underlying38 hi1 hq0 hq1 hq2 rfl (by decide) _ _ _ rfl (Xa HRM) ⟨WC.heap.size,0,none⟩ 1 1 [.slice (some ⟨wr.heap.size,0,none⟩) s.size gc] rfl rfl ?d1 ?d2 ?d3 ?d4 ?d5 ?_)
    case d1=>first|exact QS WC [.slice (some ⟨wr.heap.size,0,none⟩) s.size gc] 28|exact fun j u hj=>hj
    case d2=>intro u hu;simp at hu;subst hu;rfl
    case d3=>unfold maxLen;omega
    case d4=>omega
    case d5=>first|(rw[Xk];omega)|omega
    intro v2 Y2 hown2 hg2 _ hb2;obtain⟨q1,q2,q3,q4,q5,q6⟩:=Xa HQ;have q:=Xne q6 q1 q2 q3 q4 q5 (by rw[q6];exact hown2) hg2;obtain⟨pw,cw,rfl,_⟩:=Xf hown2;have HEND:=hide (And.intro (by simp[q6]:(em++[Value.slice (some ⟨wr.heap.size,0,none⟩) s.size gc]).length=k+1) q);clear q q1 q2 q3 q4 q5 q6 hown2 hg2 hb2 HQ HRM y5 ct hcv;go_wp2
    go_roundw
    case rel=>exact⟨k+1,_,hlt,by go_num,(Xa HEND).1,(Xa HEND).2.1,(Xa HEND).2.2⟩
    case measure=>simp[intOf];omega
  ·have hkt:k=ls.length:=by omega
   subst hkt;have KR:=hide (Xd7 hI hlm hn hsz);have HI:=hide hbr;clear hI hlm hbr hAr;go_wp2_with fail
   refine(Xa KR).mono ?_;rintro e W1 ⟨rfl,hb1⟩;have hzS:=XiY ls;generalize Xah ls=bS at*;generalize Xa9 ls=bE at*;have hb2:Below WA.heap.size WA W1:=(Xa HI).trans (hb1.mono (Xa HI).size);have hAr:=(hb2.block (nB+1) hlA).trans (Xa HA0);have hEr:=(hb2.block nB (by omega)).trans (Xa HE1);have c0:W1.cell? ⟨nB,0,none⟩=some (.pointer (some ⟨hb,0,none⟩)):=by rw[Lib.cell_of_heap hEr];rfl
   have c1:W1.cell? ⟨nB,1,none⟩=some (.pointer (some ⟨rb,0,none⟩)):=by rw[Lib.cell_of_heap hEr];rfl
   have z2:W1.cell? ⟨nB+1,2,none⟩=some (.int .i64 b):=by rw[Lib.cell_of_heap hAr];rfl
   have z3:W1.cell? ⟨nB+1,3,none⟩=some (.int .i64 d):=by rw[Lib.cell_of_heap hAr];rfl
   have KP:=hide (Xc2 b ((bS.size:Int)+1) W1 hb64 (by omega) (by omega));have HB2:=hide hb2;clear KR hb1 hb2 HI hAr hEr y5;go_wp2_with fail
   refine(Xa KP).mono ?_;rintro e W2 ⟨⟨r,hr,rfl⟩,rfl⟩;have KQ:=hide (Xc2 d ((bS.size:Int) -(r:Int)+1) W2 hd64 (by omega) (by omega));clear KP;go_wp2_with fail
   refine(Xa KQ).mono ?_;rintro e W3 ⟨⟨r2,hr2,rfl⟩,rfl⟩;clear KQ;go_upto_region 11 with fail
   have hbF:Below nB w W3.drew:=(Xa HBA).trans (((Xa HB2).drew).mono (by omega));have HFF:=hide fun(t:ByteArray) (ht:t.size≤1064*ls.length+8)=>Xa HF W3.drew t hbF ht
   obtain⟨n2,hn2⟩:∃n2:Nat,(bS.size:Int) -(r2:Int)=n2:=⟨bS.size-r2,by omega⟩;have hn3:r≤n2:=by omega
   have hn4:n2≤bS.size:=by omega
   have hes:(bS.extract r n2).size≤1064*ls.length+8:=by simp;omega
   rw[hn2];clear hbF HF HBA HB2 hr hr2 hn2;go_region_with (go_at_call 31;refine(Xa HFF _ hes).mono ?_;rintro e w5 ⟨rfl,hL⟩)
   all_goals go_wp2
   all_goals go_ret
   all_goals exact⟨rfl,hL⟩
theorem Xea {wb:Nat}{o:OpV}{w:World}{ss v2 v3 v4 v5:Value}{p:Option Addr}{cap:Nat}(hk:o.kind=4)(hlv:∃lp ln lc,o.lv=.slice lp ln lc)(hd:WAt w wb #[.slice p 0 cap,ss,v2,v3,v4,v5]):
  Calls Tryz.prog 12 #[.pointer (some ⟨wb,0,none⟩),opV o] w fun e w'=>e=.returned (.bool true)∧Below w.heap.size w w':=by
 obtain⟨lp,ln,lc,hlv⟩:=hlv;obtain⟨kind,a,b,d,s,lv,⟨fa,fk,fp,fns,fnr,info⟩,fq,fc,x0,x1,x2,x3,x4,x5⟩:=o;simp only at hlv hk;subst hlv hk;unfold opV;simp only;go_enter Tryz.func12,Tryz.ntmps12
 go_upto_region 1 with fail
 obtain⟨W0,hW0⟩:∃W0,W0=w.alloc (.cells #[.int .i64 4,.int .i64 a,.int .i64 b,.int .i64 d,.string s,.slice lp ln lc,.int .i64 fa,.int .i64 fk,.bool fp,.int .i64 fns,.int .i64 fnr,.slice fq info.length fc,.int .i64 x0,.int .i64 x1,.int .i64 x2,.int .i64 x3,.int .i64 x4,.int .i64 x5] 34):=⟨_,rfl⟩;rw[← hW0];have hx0:W0.heap[w.heap.size]?=some (.cells #[.int .i64 4,.int .i64 a,.int .i64 b,.int .i64 d,.string s,.slice lp ln lc,.int .i64 fa,.int .i64 fk,.bool fp,.int .i64 fns,.int .i64 fnr,.slice fq info.length fc,.int .i64 x0,.int .i64 x1,.int .i64 x2,.int .i64 x3,.int .i64 x4,.int .i64 x5] 34 (0,0)):=by rw[hW0];exact Xg _ _
 have hbx:Below w.heap.size w W0:=by rw[hW0];exact(Below.refl _ w).alloc (Nat.le_refl _) _
 clear hW0;have y0:W0.cell? ⟨w.heap.size,0,none⟩=some (.int .i64 4):=by rw[Lib.cell_of_heap hx0];rfl
 have hdx:WAt W0 wb #[.slice p 0 cap,ss,v2,v3,v4,v5]:=(hbx.block wb hd.lt).trans hd;have w0:=hdx.cell 0 _ rfl;have HB:=hide hbx;clear hx0 hd hdx hbx;go_wp2
 exact bodyPost_ret (v:=.bool true) (by simp[results,Tryz.results12,go_sem]) rfl ⟨rfl,Xa HB⟩
theorem Xeb {wb:Nat}{o:OpV}{w:World}{ss v2 v3 v4 v5:Value}{p:Option Addr}{cap:Nat}(hk:o.kind=5)(hlv:∃lp ln lc,o.lv=.slice lp ln lc)(hd:WAt w wb #[.slice p 0 cap,ss,v2,v3,v4,v5]):
  Calls Tryz.prog 12 #[.pointer (some ⟨wb,0,none⟩),opV o] w fun e w'=>e=.returned (.bool true)∧Below w.heap.size w w':=by
 obtain⟨lp,ln,lc,hlv⟩:=hlv;obtain⟨kind,a,b,d,s,lv,⟨fa,fk,fp,fns,fnr,info⟩,fq,fc,x0,x1,x2,x3,x4,x5⟩:=o;simp only at hlv hk;subst hlv hk;unfold opV;simp only;go_enter Tryz.func12,Tryz.ntmps12
 go_upto_region 1 with fail
 obtain⟨W0,hW0⟩:∃W0,W0=w.alloc (.cells #[.int .i64 5,.int .i64 a,.int .i64 b,.int .i64 d,.string s,.slice lp ln lc,.int .i64 fa,.int .i64 fk,.bool fp,.int .i64 fns,.int .i64 fnr,.slice fq info.length fc,.int .i64 x0,.int .i64 x1,.int .i64 x2,.int .i64 x3,.int .i64 x4,.int .i64 x5] 34):=⟨_,rfl⟩;rw[← hW0];have hx0:W0.heap[w.heap.size]?=some (.cells #[.int .i64 5,.int .i64 a,.int .i64 b,.int .i64 d,.string s,.slice lp ln lc,.int .i64 fa,.int .i64 fk,.bool fp,.int .i64 fns,.int .i64 fnr,.slice fq info.length fc,.int .i64 x0,.int .i64 x1,.int .i64 x2,.int .i64 x3,.int .i64 x4,.int .i64 x5] 34 (0,0)):=by rw[hW0];exact Xg _ _
 have hbx:Below w.heap.size w W0:=by rw[hW0];exact(Below.refl _ w).alloc (Nat.le_refl _) _
 clear hW0;have y0:W0.cell? ⟨w.heap.size,0,none⟩=some (.int .i64 5):=by rw[Lib.cell_of_heap hx0];rfl
 have hdx:WAt W0 wb #[.slice p 0 cap,ss,v2,v3,v4,v5]:=(hbx.block wb hd.lt).trans hd;have w0:=hdx.cell 0 _ rfl;have HB:=hide hbx;clear hx0 hd hdx hbx;go_wp2
 exact bodyPost_ret (v:=.bool true) (by simp[results,Tryz.results12,go_sem]) rfl ⟨rfl,Xa HB⟩
end Go.Proofs.YtkalonhalhdlaaaGreatDoor
