import Derived.Test.YtkalonhalhdlaaaGreatDoorRFirst2
import Derived.Test.YtkalonhalhdlaaaGreatDoorG37
import Derived.Test.YtkalonhalhdlaaaGreatDoorWOpen
set_option maxHeartbeats 4000000
set_option maxRecDepth 100000
namespace Go.Proofs.YtkalonhalhdlaaaGreatDoor
open Go.RowKit
structure Script (w:World)(a:Option Addr)(len cap:Nat)(os:List OpV):Prop where
 hlen:os.length=len
 small:len≤1048576
 nil:a=none→len=0∧cap=0
 cells:∀ad,a=some ad→∀j v,(X6 os)[j]?=some v→w.cell? (ad.add j)=some v
 one:∀o∈os,o.lv.oneCell'=true
theorem Xh4 (o:OpV)(h:o.lv.oneCell'=true):∀u∈YP o,u.oneCell'=true:=by
 intro u hu;simp only[YP,List.mem_cons,List.not_mem_nil,or_false]at hu;rcases hu with rfl|rfl|rfl|rfl|rfl|rfl|rfl|rfl|rfl|rfl|rfl|rfl|rfl|rfl|rfl|rfl|rfl|rfl
 all_goals first|rfl|exact h
theorem XgS {os:List OpV}(h:∀o∈os,o.lv.oneCell'=true):∀u∈X6 os,u.oneCell'=true:=by
 intro u hu;obtain⟨l,hl,hu⟩:=List.mem_flatten.1 hu;obtain⟨o,ho,rfl⟩:=List.mem_map.1 hl;exact Xh4 o (h o ho) u hu
theorem Xd3 (os ps:List OpV):X6 (os++ps)=X6 os++X6 ps:=by
 unfold X6;rw[List.map_append,List.flatten_append]
theorem YK (g2 g3 g4:Nat):(YW g2 g3 g4).length=21:=rfl
theorem XjF {V:World}{base n:Nat}{v:Value}{os:List OpV}(h:V.ownsRow base 34 18 v n (X6 os))(hn:0<n):∃g cap,v=.slice (some ⟨g,0,none⟩) n cap∧base≤g∧g<V.heap.size∧Qy V g os:=by
 rcases h.2 with⟨_,e⟩|⟨g,cap,cur,e1,e2,e3,_,_,_,e7⟩
 ·omega
 ·refine ⟨g,cap,e1,e2,(Array.getElem?_eq_some_iff.1 e3).1,fun j v hj=> ?_⟩;rw[Lib.cell_of_heap e3];rw[← e7]at hj
  have hjn:j<n*18:=by
   have:=(List.getElem?_eq_some_iff.1 hj).1;rw[List.length_take]at this;omega
  rw[List.getElem?_take_of_lt hjn,Array.getElem?_toList]at hj;exact hj
theorem Xct {lo hi:Int}{a:Option Addr}{len cap:Nat}{os:List OpV}{w:World}(hs:Script w a len cap os)
  (hp:∀V g cap',Below w.heap.size w V→w.heap.size≤g→g<V.heap.size→V.heap[w.heap.size+1+1+1+1]?=some (.cells #[.int .u8 97] 5 (1,2))→V.heap[w.heap.size+1+1]?=some (.cells #[.string ⟨#[3,63]⟩] 9 (0,0))→V.heap[w.heap.size+1+1+1]?=some (.cells #[.string ⟨#[3,63]⟩,.string ⟨#[104,101,108,108,111]⟩] 9 (0,0))→Qy V g (YW (w.heap.size+1+1) (w.heap.size+1+1+1) (w.heap.size+1+1+1+1)++os)→
   Calls Tryz.prog 11 #[.slice (some ⟨g,0,none⟩) (21+len) cap',.int .i64 lo,.int .i64 hi] V fun e w'=>e=.returned (.bool true)∧Below w.heap.size V w'):
  Calls Tryz.prog 8 #[.slice a len cap,.int .i64 lo,.int .i64 hi] w fun e w'=>e=.returned (.bool true)∧Below w.heap.size w w':=by
 have k1:=first_any w;have HP:=hide hp;have HS:=hide hs;clear hp;go_enter Tryz.func8,Tryz.ntmps8
 go_wp2_with fail
 refine k1.mono ?_;rintro e w1 ⟨rfl,hrow,h4,h2,h3,hb1⟩;clear k1;have hz1:=hb1.size;have hl5:w.heap.size+1+1+1+1+1<w1.heap.size:=(Array.getElem?_eq_some_iff.1 hrow).1
 have hown:w1.ownsRow w.heap.size 34 18 (.slice (some ⟨w.heap.size+1+1+1+1+1,0,none⟩) 21 21) 21 (X6 (YW (w.heap.size+1+1) (w.heap.size+1+1+1) (w.heap.size+1+1+1+1))):=
  ⟨by rw[Qr,YK],.inr ⟨_,21,_,rfl,by omega,hrow,Nat.le_refl _,by unfold maxLen;omega,by rw[List.size_toArray,Qr,YK],by rw[List.take_of_length_le (by rw[Qr,YK];omega)]⟩⟩
 have hob:(Value.slice (some ⟨w.heap.size+1+1+1+1+1,0,none⟩) 21 21).ownBlock=some (w.heap.size+1+1+1+1+1):=rfl;generalize hv1:Value.slice (some ⟨w.heap.size+1+1+1+1+1,0,none⟩) 21 21=v1 at*;obtain⟨i0,hi0,hy0,hy1,hy2⟩:=info_parts XgF;have hsm:=hs.small;cases a with
 |none=>
  obtain⟨e1,e2⟩:=hs.nil rfl;subst e1 e2;have eo:os=[]:=List.length_eq_zero_iff.1 hs.hlen;subst eo
  have hat:Qy w1 (w.heap.size+1+1+1+1+1) (YW (w.heap.size+1+1) (w.heap.size+1+1+1) (w.heap.size+1+1+1+1)++[]):=by
   rw[List.append_nil];intro j v hj;rw[Lib.cell_of_heap hrow,List.getElem?_toArray];exact hj
  have KP:=hide (Xa HP w1 _ 21 hb1 (by omega) hl5 h4 h2 h3 hat);have HB1:=hide hb1;clear HP HS hs hown hob h4 h2 h3 hrow hat;subst hv1;go_wp2_with (at_builtin;refine ZM _ rfl _ _ 22 rfl 34 i0 Tryz.underlying22 hi0 (w.heap.size+1+1+1+1+1) 21 21 0 rfl (Nat.le_refl _) rfl ?_)
  go_wp2_with fail
  refine(Xa KP).mono ?_;rintro e w2 ⟨rfl,hb2⟩;have HE:=hide ((Xa HB1).trans hb2);clear KP hb2;go_wp2
  go_ret
  exact⟨rfl,Xa HE⟩
 |some ad=>
  have HOWN:=hide hown;have HOB:=hide hob;have H4:=hide h4;have H2:=hide h2;have H3:=hide h3;have HV1:=hide hv1;clear hown hob h4 h2 h3 hrow hv1 hl5;go_wp2_with (at_builtin;refine wpList_append_own _ rfl _ _ 22 rfl w.heap.size 34 i0 _ 18 184 Tryz.underlying22 hi0 hy0 hy1 hy2 rfl (by decide) _ _ _ rfl (Xa HOWN) ad len cap (X6 os) rfl ?y0 ?y1 ?y2 ?y3 ?y4 ?y5 ?_)
  try case y0=>rw[Qr,(Xa HS).hlen]
  try case y1=>
   intro j u hj;have hc:=(Xa HS).cells ad rfl j u hj;rw[hb1.cell (p:=ad.add j) (World.block_lt_of_cell? w _ hc)];exact hc
  try case y2=>exact XgS (Xa HS).one
  try case y3=>unfold maxLen;omega
  try case y4=>omega
  try case y5=>omega
  intro v5 V5 hown5 hg5 hnn;clear hnn;rw[← Xd3]at hown5;obtain⟨g5,cap5,rfl,hg1,hg2,hat⟩:=XjF hown5 (by omega);have hb5:Below w.heap.size w V5:=hb1.grown hg5 hz1 (fun k hk=>by rw[Xa HOB]at hk;simp at hk;omega)
  have h45:V5.heap[w.heap.size+1+1+1+1]?=some (.cells #[.int .u8 97] 5 (1,2)):=by
   have hl4:=(Array.getElem?_eq_some_iff.1 (Xa H4)).1;rw[(Xb.grown hg5).block _ hl4 (fun e=>by rw[Xa HOB]at e;simp at e)];exact Xa H4
  have h25:V5.heap[w.heap.size+1+1]?=some (.cells #[.string ⟨#[3,63]⟩] 9 (0,0)):=by
   have hl4:=(Array.getElem?_eq_some_iff.1 (Xa H2)).1;rw[(Xb.grown hg5).block _ hl4 (fun e=>by rw[Xa HOB]at e;simp at e)];exact Xa H2
  have h35:V5.heap[w.heap.size+1+1+1]?=some (.cells #[.string ⟨#[3,63]⟩,.string ⟨#[104,101,108,108,111]⟩] 9 (0,0)):=by
   have hl4:=(Array.getElem?_eq_some_iff.1 (Xa H3)).1;rw[(Xb.grown hg5).block _ hl4 (fun e=>by rw[Xa HOB]at e;simp at e)];exact Xa H3
  have KP:=hide (Xa HP V5 g5 cap5 hb5 hg1 hg2 h45 h25 h35 hat);have HB5:=hide hb5;clear HP HS hs hown5 hg5 hat h45 h25 h35 hb5 HOWN HOB H4 H2 H3 HV1 hb1 hi0 hy0 hy1 hy2;go_wp2_with fail
  refine(Xa KP).mono ?_;rintro e w2 ⟨rfl,hb2⟩;have HE:=hide ((Xa HB5).trans hb2);clear KP hb2;go_wp2
  go_ret
  exact⟨rfl,Xa HE⟩
theorem Xfr {w:World}{g2 g3 g4:Nat}(h4:w.heap[g4]?=some (.cells #[.int .u8 97] 5 (1,2))):∀o∈YW g2 g3 g4,OpS w o:=by
 have hr:∀z:Int,-100≤z→z≤100→ -9223372036854775808≤z∧z≤9223372036854775807:=fun z h1 h2=>⟨by omega,by omega⟩
 have hn:∀ {k a b d:Int} {s:ByteArray} {lv:Value} {c0 c1 c2 c3 c4 c5:Int},(-100≤a∧a≤100)→(-100≤b∧b≤100)→(-100≤d∧d≤100)→(∃ lp ln lc,lv=.slice lp ln lc)→s.size≤1048576→OpS w ⟨k,a,b,d,s,lv,⟨0,0,false,0,0,[]⟩,none,0,c0,c1,c2,c3,c4,c5⟩:=
  fun ha hb hd h1 h2=>⟨hr _ ha.1 ha.2,hr _ hb.1 hb.2,hr _ hd.1 hd.2,h2,h1,.inl ⟨rfl,rfl⟩⟩
 intro o ho;simp only[YW,List.mem_cons,List.not_mem_nil,or_false]at ho;rcases ho with rfl|rfl|rfl|rfl|rfl|rfl|rfl|rfl|rfl|rfl|rfl|rfl|rfl|rfl|rfl|rfl|rfl|rfl|rfl|rfl|rfl
 case inr.inr.inr.inr.inl=>
  refine⟨hr 8 (by decide) (by decide),hr 0 (by decide) (by decide),hr 0 (by decide) (by decide),by show(0:Nat)≤_;omega,⟨_,_,_,rfl⟩,.inr ⟨⟨g4,0,none⟩,rfl,fun j u hj=> ?_⟩⟩
  match j,hj with
  |0,hj=>
   simp[Lib.byteCells]at hj;subst hj;have:(⟨g4,0,none⟩:Addr).add 0=⟨g4,0,none⟩:=by simp[Addr.add]
   rw[this,Lib.cell_of_heap h4];rfl
  |j+1,hj=>simp[Lib.byteCells]at hj
 all_goals exact hn (by decide) (by decide) (by decide) ⟨_,_,_,rfl⟩ (by decide)
theorem J6.XiR {w:World}{N:Nat}{o:OpV}(h:J6 w N o)(hN:N≤1048576):OpS w o:=by
 obtain⟨h1,h2,h3,h4,_⟩:=h.nums;refine⟨h2,h3,h4,Nat.le_trans h.s hN,?_,h.src⟩;rcases h.lv with e|⟨a,len,cap,e,_⟩
 ·exact ⟨_,_,_,e⟩
 ·exact ⟨_,_,_,e⟩
theorem XiJ {V:World}(hC:Ctl V)(h0:0<V.heap.size):Xx V.heap.size (V.alloc (.cells Xeh 45)) V.heap.size (fun _=>0) (.slice none 0 0) ⟨.slice none 0 0,[],ZJ⟩ []:=by
 have hb:=(Below.refl V.heap.size V).alloc (Nat.le_refl _) (.cells Xeh 45);refine⟨⟨⟨Xg _ _,World.ownsRow_nil _ _ _ _,World.ownsRow_nil _ _ _ _,World.ownsRow_nil _ _ _ _,World.ownsRow_nil _ _ _ _,fun i v hv=>by simp[ZJ]at hv,fun i v hv=>by simp[ZJ]at hv,fun i v hv=>by simp[ZJ]at hv,fun i v hv=>by simp[ZJ]at hv,fun i hi=>by simp[ZJ]at hi,rfl,rfl,rfl,rfl,fun v hv=>by simp[ZJ]at hv⟩,World.ownsRow_nil _ _ _ _,fun e he=>by simp at he,List.Pairwise.nil,Nat.le_refl _,fun k hk=>(by cases hk),fun k hk=>absurd hk (XdA k),fun e he=>by simp at he⟩,World.ownsRow_nil _ _ _ _,fun n p hp=>by simp at hp,fun n p hp=>by simp at hp,fun p hp=>by simp at hp,fun k hk=>absurd rfl hk,fun k hk=>(by cases hk),fun k hk=>absurd rfl hk,rfl,fun _ _=>rfl,hC.below hb h0,h0,hb.size⟩
theorem Xgh {w:World}{g2 g3 g4:Nat}(h4:w.heap[g4]?=some (.cells #[.int .u8 97] 5 (1,2))):∀o∈YW g2 g3 g4,Jv w o:=by
 have hn:∀ {k a b d:Int} {s:ByteArray} {lv:Value} {c0 c1 c2 c3 c4 c5:Int},(∃ lp ln lc,lv=.slice lp ln lc)→s.size≤1048576→Jv w ⟨k,a,b,d,s,lv,⟨0,0,false,0,0,[]⟩,none,0,c0,c1,c2,c3,c4,c5⟩:=fun h1 h2=>⟨h1,.inl ⟨rfl,rfl⟩,by show(0:Nat)≤_;omega,h2⟩
 intro o ho;simp only[YW,List.mem_cons,List.not_mem_nil,or_false]at ho;rcases ho with rfl|rfl|rfl|rfl|rfl|rfl|rfl|rfl|rfl|rfl|rfl|rfl|rfl|rfl|rfl|rfl|rfl|rfl|rfl|rfl|rfl
 case inr.inr.inr.inr.inl=>
  refine⟨⟨_,_,_,rfl⟩,.inr ⟨⟨g4,0,none⟩,rfl,fun j u hj=> ?_⟩,by show(1:Nat)≤_;omega,by show(0:Nat)≤_;omega⟩
  match j,hj with
  |0,hj=>
   simp[Lib.byteCells]at hj;subst hj;have:(⟨g4,0,none⟩:Addr).add 0=⟨g4,0,none⟩:=by simp[Addr.add]
   rw[this,Lib.cell_of_heap h4];rfl
  |j+1,hj=>simp[Lib.byteCells]at hj
 all_goals exact hn ⟨_,_,_,rfl⟩ (by decide)
theorem J6.fit {w:World}{N:Nat}{o:OpV}(h:J6 w N o)(hN:N≤1048576):Jv w o:=by
 refine⟨?_,h.src,Nat.le_trans h.info hN,Nat.le_trans h.s hN⟩;rcases h.lv with e|⟨a,len,cap,e,_⟩
 ·exact ⟨_,_,_,e⟩
 ·exact ⟨_,_,_,e⟩
end Go.Proofs.YtkalonhalhdlaaaGreatDoor
