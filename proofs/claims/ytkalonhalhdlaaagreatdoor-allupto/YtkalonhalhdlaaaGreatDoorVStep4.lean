import Derived.Test.YtkalonhalhdlaaaGreatDoorG33
set_option maxHeartbeats 8000000
set_option maxRecDepth 100000
namespace Go.Proofs.YtkalonhalhdlaaaGreatDoor
open Go.RowKit
theorem JV (c:Int)(n:Nat)(hc: -9223372036854775808≤c∧c≤9223372036854775807)(hn:0<n)(hn2:n≤200000000000):
  ∃r:Nat,r<n∧∀w,Calls Tryz.prog 16 #[.int .i64 c,.int .i64 (n:Int)] w fun e w'=>e=.returned (.int .i64 r)∧w'=w:=by
 by_cases h0:c<0
 ·have h3:=Int.emod_nonneg (-(c+1)) (show(n:Int)≠0 by omega);have h4:=Int.emod_lt_of_pos (-(c+1)) (show(0:Int)<n by omega);refine⟨((-(c+1))%(n:Int)).toNat,by omega,fun w=> ?_⟩;have hn0:(0:Int)<n:=by omega
  have hnb:(n:Int)≤200000000000:=by omega
  generalize (n:Int)=n at*;go_enter Tryz.func16,Tryz.ntmps16
  go_wp2
  go_ret
  have h1:(-(c+1)).tmod n=(-(c+1))%n:=Int.tmod_eq_emod_of_nonneg (by omega);have h2: -((c+1).tmod n)=(-(c+1))%n:=by rw[← h1,Int.neg_tmod]
  refine⟨?_,rfl⟩;show Ending.returned (.int .i64 (-((c+1).tmod n)))=_
  rw[h2];exact YI (by omega)
 ·have h3:=Int.emod_nonneg c (show(n:Int)≠0 by omega);have h4:=Int.emod_lt_of_pos c (show(0:Int)<n by omega);refine⟨(c%(n:Int)).toNat,by omega,fun w=> ?_⟩;have hn0:(0:Int)<n:=by omega
  have hnb:(n:Int)≤200000000000:=by omega
  generalize (n:Int)=n at*;go_enter Tryz.func16,Tryz.ntmps16
  go_wp2
  go_ret
  refine⟨?_,rfl⟩;show Ending.returned (.int .i64 (c%n))=_
  exact YI (by omega)
theorem Xc5 {wb n g cap:Nat}{o:OpV}{w:World}{Q:World→Prop}{X:Nat→Prop}{hs ss v2 v3 v4 v5:Value}{es:List Ear}(hk:o.kind=4)(hlv:∃lp ln lc,o.lv=.slice lp ln lc)(ha: -9223372036854775808≤o.a∧o.a≤9223372036854775807)(hd:WAt w wb #[hs,ss,v2,v3,v4,v5])(hhs:hs=.slice (some ⟨g,0,none⟩) n cap)(hn:es.length=n)(hn0:0<n)(hnb:n≤200000000000)
  (hgl:g<w.heap.size) (hXg:¬X g) (hXl:∀k,X k→k<w.heap.size)
  (hec:∀i (hi:i<es.length),w.cell? ⟨g,i*2,none⟩=some (.pointer (some ⟨es[i].hb,0,none⟩))∧w.cell? ⟨g,i*2+1,none⟩=some (.pointer (some ⟨es[i].rb,0,none⟩)))
  (HF:Hid (∀ V i (hi:i<es.length),Below w.heap.size w V→Calls Tryz.prog 15 #[.pointer (some ⟨wb,0,none⟩),Jz es[i],opV o] V fun e w'=>e=.returned (.bool true)∧Q w'∧Xb X V w'∧w'.cell? ⟨wb,0,none⟩=some hs)):
  Calls Tryz.prog 12 #[.pointer (some ⟨wb,0,none⟩),opV o] w fun e w'=>e=.returned (.bool true)∧Q w':=by
 unfold Jz at HF;obtain⟨lp,ln,lc,hlv⟩:=hlv;obtain⟨kind,a,b,d,s,lv,⟨fa,fk,fp,fns,fnr,info⟩,fq,fc,x0,x1,x2,x3,x4,x5⟩:=o;simp only at hlv hk ha;subst hlv hk;unfold opV at HF⊢;simp only at HF⊢;go_enter Tryz.func12,Tryz.ntmps12
 go_upto_region 1 with fail
 obtain⟨W0,hW0⟩:∃W0,W0=w.alloc (.cells #[.int .i64 4,.int .i64 a,.int .i64 b,.int .i64 d,.string s,.slice lp ln lc,.int .i64 fa,.int .i64 fk,.bool fp,.int .i64 fns,.int .i64 fnr,.slice fq info.length fc,.int .i64 x0,.int .i64 x1,.int .i64 x2,.int .i64 x3,.int .i64 x4,.int .i64 x5] 34):=⟨_,rfl⟩;rw[← hW0];have hx0:W0.heap[w.heap.size]?=some (.cells #[.int .i64 4,.int .i64 a,.int .i64 b,.int .i64 d,.string s,.slice lp ln lc,.int .i64 fa,.int .i64 fk,.bool fp,.int .i64 fns,.int .i64 fnr,.slice fq info.length fc,.int .i64 x0,.int .i64 x1,.int .i64 x2,.int .i64 x3,.int .i64 x4,.int .i64 x5] 34 (0,0)):=by rw[hW0];exact Xg _ _
 have hbx:Below w.heap.size w W0:=by rw[hW0];exact(Below.refl _ w).alloc (Nat.le_refl _) _
 clear hW0;have y0:W0.cell? ⟨w.heap.size,0,none⟩=some (.int .i64 4):=by rw[Lib.cell_of_heap hx0];rfl
 have y1:W0.cell? ⟨w.heap.size,1,none⟩=some (.int .i64 a):=by rw[Lib.cell_of_heap hx0];rfl
 have y2:W0.cell? ⟨w.heap.size,2,none⟩=some (.int .i64 b):=by rw[Lib.cell_of_heap hx0];rfl
 have y3:W0.cell? ⟨w.heap.size,3,none⟩=some (.int .i64 d):=by rw[Lib.cell_of_heap hx0];rfl
 have y4:W0.cell? ⟨w.heap.size,4,none⟩=some (.string s):=by rw[Lib.cell_of_heap hx0];rfl
 have y5:W0.cell? ⟨w.heap.size,5,none⟩=some (.slice lp ln lc):=by rw[Lib.cell_of_heap hx0];rfl
 have y6:W0.cell? ⟨w.heap.size,6,none⟩=some (.int .i64 fa):=by rw[Lib.cell_of_heap hx0];rfl
 have y7:W0.cell? ⟨w.heap.size,7,none⟩=some (.int .i64 fk):=by rw[Lib.cell_of_heap hx0];rfl
 have y8:W0.cell? ⟨w.heap.size,8,none⟩=some (.bool fp):=by rw[Lib.cell_of_heap hx0];rfl
 have y9:W0.cell? ⟨w.heap.size,9,none⟩=some (.int .i64 fns):=by rw[Lib.cell_of_heap hx0];rfl
 have y10:W0.cell? ⟨w.heap.size,10,none⟩=some (.int .i64 fnr):=by rw[Lib.cell_of_heap hx0];rfl
 have y11:W0.cell? ⟨w.heap.size,11,none⟩=some (.slice fq info.length fc):=by rw[Lib.cell_of_heap hx0];rfl
 have y12:W0.cell? ⟨w.heap.size,12,none⟩=some (.int .i64 x0):=by rw[Lib.cell_of_heap hx0];rfl
 have y13:W0.cell? ⟨w.heap.size,13,none⟩=some (.int .i64 x1):=by rw[Lib.cell_of_heap hx0];rfl
 have y14:W0.cell? ⟨w.heap.size,14,none⟩=some (.int .i64 x2):=by rw[Lib.cell_of_heap hx0];rfl
 have y15:W0.cell? ⟨w.heap.size,15,none⟩=some (.int .i64 x3):=by rw[Lib.cell_of_heap hx0];rfl
 have y16:W0.cell? ⟨w.heap.size,16,none⟩=some (.int .i64 x4):=by rw[Lib.cell_of_heap hx0];rfl
 have y17:W0.cell? ⟨w.heap.size,17,none⟩=some (.int .i64 x5):=by rw[Lib.cell_of_heap hx0];rfl
 have hdx:WAt W0 wb #[hs,ss,v2,v3,v4,v5]:=(hbx.block wb hd.lt).trans hd;have w0:=hdx.cell 0 _ rfl;obtain⟨r,hr,hp⟩:=JV a n ha hn0 hnb;have hrl:r<es.length:=by omega
 have ea:=(hbx.cell (p:=⟨g,r*2,none⟩) hgl).trans (hec r hrl).1;have eb:=(hbx.cell (p:=⟨g,r*2+1,none⟩) hgl).trans (hec r hrl).2;have kf:=Xa HF W0.drew r hrl (hbx.drew);generalize es[r].hb=hb at*;generalize es[r].rb=rb at*;subst hhs;have hlb:=(Array.getElem?_eq_some_iff.1 hx0).1;have hzx:=hbx.size;have hnX:¬X w.heap.size:=fun hq=>by have:=hXl _ hq;omega
 generalize w.heap.size=nB at*;have hS0:W0.cell? ⟨nB,0,none⟩=some (.int .i64 4)∧W0.cell? ⟨nB,1,none⟩=some (.int .i64 a)∧W0.cell? ⟨nB,2,none⟩=some (.int .i64 b)∧W0.cell? ⟨nB,3,none⟩=some (.int .i64 d)∧W0.cell? ⟨nB,4,none⟩=some (.string s)∧W0.cell? ⟨nB,5,none⟩=some (.slice lp ln lc)∧W0.cell? ⟨nB,6,none⟩=some (.int .i64 fa)∧W0.cell? ⟨nB,7,none⟩=some (.int .i64 fk)∧W0.cell? ⟨nB,8,none⟩=some (.bool fp)∧W0.cell? ⟨nB,9,none⟩=some (.int .i64 fns)∧W0.cell? ⟨nB,10,none⟩=some (.int .i64 fnr)∧W0.cell? ⟨nB,11,none⟩=some (.slice fq info.length fc)∧W0.cell? ⟨nB,12,none⟩=some (.int .i64 x0)∧W0.cell? ⟨nB,13,none⟩=some (.int .i64 x1)∧W0.cell? ⟨nB,14,none⟩=some (.int .i64 x2)∧W0.cell? ⟨nB,15,none⟩=some (.int .i64 x3)∧W0.cell? ⟨nB,16,none⟩=some (.int .i64 x4)∧W0.cell? ⟨nB,17,none⟩=some (.int .i64 x5)∧W0.cell? ⟨wb,0,none⟩=some (.slice (some ⟨g,0,none⟩) n cap)∧W0.cell? ⟨g,r*2,none⟩=some (.pointer (some ⟨hb,0,none⟩))∧W0.cell? ⟨g,r*2+1,none⟩=some (.pointer (some ⟨rb,0,none⟩)):=⟨y0,y1,y2,y3,y4,y5,y6,y7,y8,y9,y10,y11,y12,y13,y14,y15,y16,y17,w0,ea,eb⟩
 have HFV:Hid (Calls Tryz.prog 15 #[.pointer (some ⟨wb,0,none⟩),.agg #[.pointer (some ⟨hb,0,none⟩),.pointer (some ⟨rb,0,none⟩)],.agg #[.int .i64 4,.int .i64 a,.int .i64 b,.int .i64 d,.string s,.slice lp ln lc,.int .i64 fa,.int .i64 fk,.bool fp,.int .i64 fns,.int .i64 fnr,.slice fq info.length fc,.int .i64 x0,.int .i64 x1,.int .i64 x2,.int .i64 x3,.int .i64 x4,.int .i64 x5]] W0.drew fun e w'=>e=.returned (.bool true)∧Q w'∧(w'.cell? ⟨nB,0,none⟩=some (.int .i64 4)∧w'.cell? ⟨nB,1,none⟩=some (.int .i64 a)∧w'.cell? ⟨nB,2,none⟩=some (.int .i64 b)∧w'.cell? ⟨nB,3,none⟩=some (.int .i64 d)∧w'.cell? ⟨nB,4,none⟩=some (.string s)∧w'.cell? ⟨nB,5,none⟩=some (.slice lp ln lc)∧w'.cell? ⟨nB,6,none⟩=some (.int .i64 fa)∧w'.cell? ⟨nB,7,none⟩=some (.int .i64 fk)∧w'.cell? ⟨nB,8,none⟩=some (.bool fp)∧w'.cell? ⟨nB,9,none⟩=some (.int .i64 fns)∧w'.cell? ⟨nB,10,none⟩=some (.int .i64 fnr)∧w'.cell? ⟨nB,11,none⟩=some (.slice fq info.length fc)∧w'.cell? ⟨nB,12,none⟩=some (.int .i64 x0)∧w'.cell? ⟨nB,13,none⟩=some (.int .i64 x1)∧w'.cell? ⟨nB,14,none⟩=some (.int .i64 x2)∧w'.cell? ⟨nB,15,none⟩=some (.int .i64 x3)∧w'.cell? ⟨nB,16,none⟩=some (.int .i64 x4)∧w'.cell? ⟨nB,17,none⟩=some (.int .i64 x5)∧w'.cell? ⟨wb,0,none⟩=some (.slice (some ⟨g,0,none⟩) n cap)∧w'.cell? ⟨g,r*2,none⟩=some (.pointer (some ⟨hb,0,none⟩))∧w'.cell? ⟨g,r*2+1,none⟩=some (.pointer (some ⟨rb,0,none⟩)))):=by
  refine kf.mono ?_;rintro e w' ⟨rfl,hq,hk,hc⟩;have hN:∀j v,W0.cell? ⟨nB,j,none⟩=some v→w'.cell? ⟨nB,j,none⟩=some v:=fun j v hv=>(hk.cell (p:=⟨nB,j,none⟩) hlb hnX).trans hv
  have hG:∀j v,W0.cell? ⟨g,j,none⟩=some v→w'.cell? ⟨g,j,none⟩=some v:=fun j v hv=>(hk.cell (p:=⟨g,j,none⟩) (Nat.lt_of_lt_of_le hgl hzx) hXg).trans hv
  exact⟨rfl,hq,hN _ _ y0,hN _ _ y1,hN _ _ y2,hN _ _ y3,hN _ _ y4,hN _ _ y5,hN _ _ y6,hN _ _ y7,hN _ _ y8,hN _ _ y9,hN _ _ y10,hN _ _ y11,hN _ _ y12,hN _ _ y13,hN _ _ y14,hN _ _ y15,hN _ _ y16,hN _ _ y17,hc,hG _ _ ea,hG _ _ eb⟩
 have HP:=hide hp;have hnI:0<(n:Int):=by omega
 have hrI:(r:Int)<(n:Int):=by omega
 have HS0:=hide hS0;clear HF hec hx0 hd hdx hbx kf hp hS0;go_upto_region 4 with fail
 clear y0 y1 y2 y3 y4 y5 y6 y7 y8 y9 y10 y11 y12 y13 y14 y15 y16 y17 w0 ea eb;go_region_held3 (fun w'=>w'.cell? ⟨nB,0,none⟩=some (.int .i64 4)∧w'.cell? ⟨nB,1,none⟩=some (.int .i64 a)∧w'.cell? ⟨nB,2,none⟩=some (.int .i64 b)∧w'.cell? ⟨nB,3,none⟩=some (.int .i64 d)∧w'.cell? ⟨nB,4,none⟩=some (.string s)∧w'.cell? ⟨nB,5,none⟩=some (.slice lp ln lc)∧w'.cell? ⟨nB,6,none⟩=some (.int .i64 fa)∧w'.cell? ⟨nB,7,none⟩=some (.int .i64 fk)∧w'.cell? ⟨nB,8,none⟩=some (.bool fp)∧w'.cell? ⟨nB,9,none⟩=some (.int .i64 fns)∧w'.cell? ⟨nB,10,none⟩=some (.int .i64 fnr)∧w'.cell? ⟨nB,11,none⟩=some (.slice fq info.length fc)∧w'.cell? ⟨nB,12,none⟩=some (.int .i64 x0)∧w'.cell? ⟨nB,13,none⟩=some (.int .i64 x1)∧w'.cell? ⟨nB,14,none⟩=some (.int .i64 x2)∧w'.cell? ⟨nB,15,none⟩=some (.int .i64 x3)∧w'.cell? ⟨nB,16,none⟩=some (.int .i64 x4)∧w'.cell? ⟨nB,17,none⟩=some (.int .i64 x5)∧w'.cell? ⟨wb,0,none⟩=some (.slice (some ⟨g,0,none⟩) n cap)∧w'.cell? ⟨g,r*2,none⟩=some (.pointer (some ⟨hb,0,none⟩))∧w'.cell? ⟨g,r*2+1,none⟩=some (.pointer (some ⟨rb,0,none⟩))) (first|assumption|exact Xa HS0) (first|(go_at_call 16;refine(Xa HP _).mono ?_;rintro e w1 ⟨rfl,rfl⟩)|(go_at_call 15;refine(Xa HFV).mono ?_;rintro e w2 ⟨rfl,hq,hS2⟩))
 all_goals go_wp2
 all_goals exact bodyPost_ret (v:=.bool true) (by simp[results,Tryz.results12,go_sem]) rfl ⟨rfl,hq⟩
end Go.Proofs.YtkalonhalhdlaaaGreatDoor
