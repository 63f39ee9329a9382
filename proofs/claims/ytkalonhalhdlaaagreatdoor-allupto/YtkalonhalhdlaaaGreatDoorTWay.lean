import Derived.Test.YtkalonhalhdlaaaGreatDoorSCall5
set_option maxRecDepth 100000
namespace Go.Proofs.YtkalonhalhdlaaaGreatDoor
open Go.RowKit
def Way (w:World)(own:Nat→Nat)(t:Nat)(v:Value)(l:List Msg):Prop:=
 ∃p cap,v=.slice p l.length cap∧l.length≤cap∧cap≤maxLen∧((p=none∧cap=0)∨∃g off cur,p=some ⟨g,off,none⟩∧own g=t∧w.heap[g]?=some (.cells cur 28 (0,0))∧off+cap≤cur.size∧∀(j:Nat) (m:Msg),l[j]?=some m→∃x,cur[off+j]?=some x∧BytesAt w own 0 x m)
section
variable {w w':World}{own own':Nat→Nat}{t:Nat}{v:Value}{l:List Msg}{X:Nat→Prop}
theorem Way.nil (w:World)(own:Nat→Nat)(t:Nat):Way w own t (.slice none 0 0) []:=⟨none,0,rfl,Nat.le_refl _,Nat.zero_le _,.inl ⟨rfl,rfl⟩⟩
theorem Way.keeps (h:Way w own t v l)(hk:Xb X w w')(hx:∀k,X k→own k≠t∧own k≠0)(ho:∀k,k<w.heap.size→own k=t∨own k=0→own' k=own k):Way w' own' t v l:=by
 obtain⟨p,cap,rfl,h1,h2,h3⟩:=h;refine⟨p,cap,rfl,h1,h2,?_⟩;rcases h3 with h3|⟨g,off,cur,rfl,hg,hc,hs,he⟩
 ·exact .inl h3
 ·have hlt:=(Array.getElem?_eq_some_iff.1 hc).1;refine .inr ⟨g,off,cur,rfl,(ho g hlt (.inl hg)).trans hg,?_,hs,fun j m hj=> ?_⟩
  ·rw[hk.block g hlt (fun hX=>(hx g hX).1 hg)];exact hc
  ·obtain ⟨x,hx1,hx2⟩:=he j m hj;exact⟨x,hx1,Xc hx2.1 hk (fun k hb hX=>(hx k hX).2 (hx2.2 k hb)),fun k hb=>(ho k (World.ownsRow.lt hx2.1 k hb).2 (.inr (hx2.2 k hb))).trans (hx2.2 k hb)⟩
theorem XeH (g:Nat)(e:TypeId)(fz:Nat×Nat):∀(vs:List Value) (o:Nat) (w:World) (cur:Array Value),w.heap[g]?=some (.cells cur e fz)→o+vs.length≤cur.size→
  ∃cur',(w.setCells g o vs).heap[g]?=some (.cells cur' e fz)∧cur'.size=cur.size∧(∀ j,j<o→cur'[j]?=cur[j]?)∧(∀ j,j<vs.length→cur'[o+j]?=vs[j]?):=by
 intro vs;induction vs with
 |nil=>exact fun o w cur h _=>⟨cur,h,rfl,fun _ _=>rfl,fun j hj=>by simp at hj⟩
 |cons x r ih=>
  intro o w cur h hl;simp only[List.length_cons]at hl;obtain⟨cur',h1,h2,h3,h4⟩:=ih (o+1) (w.setCell ⟨g,o,none⟩ x) (cur.setIfInBounds o x) (Xm h x) (by simp;omega);refine⟨cur',h1,by rw[h2];simp,fun j hj=> ?_,fun j hj=> ?_⟩
  ·rw[h3 j (by omega),Array.getElem?_setIfInBounds_ne (by omega)]
  ·rcases j with _|j
   ·rw[Nat.add_zero,h3 o (by omega)];simp[show o<cur.size by omega]
   ·simp only[List.length_cons]at hj;rw[show o+(j+1)=o+1+j by omega,h4 j (by omega)];rfl
theorem XeI (g:Nat):∀(vs:List Value) (o:Nat) (w:World),Xb (· =g) w (w.setCells g o vs):=by
 intro vs;induction vs with
 |nil=>exact fun o w=>Xb.refl _ _
 |cons x r ih=>exact fun o w=>((Xb.refl _ w).setB o x).trans (ih (o+1) _)
theorem JX {P:Program}(w:World)(t ty e:TypeId)(i:TypeInfo)(ht:P.underlying t=some (.slice e))(hi:P.info? e=some i)(a:Addr)(c:Nat):(Builtin.append_ #[t,t] ty #[.slice none 0 0,.slice (some a) 0 c]).run P w=.ok (.slice none 0 0) w:=by
 have hfc:=run_firstCells_some (P:=P) w i.size 0 a 0 c [] (by simp) (by simp);simp[Builtin.append_,run_underlying ht,sizeOf,typeInfo,hi,Builtin.lenOf,hfc]
theorem Xbx (ty:TypeId){u:Value}{es:List Value}{l2:List Msg}(hw:Way w own t v l)(hL:Lst w own 0 u es l2)(ht:t≠0)(hn:∀k,w.heap.size≤k→own k=0)(hlen:l.length+l2.length≤2199023255552):
  ∃v' w' own',(Builtin.append_ #[38,38] ty #[v,u]).run Tryz.prog w=.ok v' w'∧(∃ p cap,v'=.slice p (l++l2).length cap)∧Way w' own' t v' (l++l2)∧Xb (fun k=>own k=t) w w'∧(∀ k,k<w.heap.size→own' k=own k)∧(∀ k,w'.heap.size≤k→own' k=0):=by
 obtain⟨i1,hi1,hy0,hy1,hy2⟩:=info_parts QC;obtain⟨p,cap,rfl,h1,h2,h3⟩:=hw;have hel:=hL.len
 -- the entries that are there
 have hex:∃olds:List Value,olds.length=l.length*1∧(∀ b,p=some b→∀j u,olds[j]?=some u→w.cell? (b.add j)=some u)∧(∀(j:Nat) (y:Value) (m:Msg),olds[j]?=some y→l[j]?=some m→BytesAt w own 0 y m):=by
  rcases h3 with⟨rfl,rfl⟩|⟨g,off,cur,rfl,hg,hc,hsz,he⟩
  ·have:l=[]:=List.eq_nil_of_length_eq_zero (by omega);subst this;exact⟨[],rfl,fun b hb=>(by cases hb),fun j y m hj=>by simp at hj⟩
  ·refine ⟨(List.range l.length).map (fun j=>cur[off+j]?.getD (.slice none 0 0)),by simp,fun b hb j u hj=> ?_,fun j y m hj hm=> ?_⟩
   ·simp only[Option.some.injEq]at hb;subst hb
    have hj2:j<l.length:=by
     have:=(List.getElem?_eq_some_iff.1 hj).1;simpa using this
    have hc2:off+j<cur.size:=by omega
    simp[hj2,hc2]at hj;rw[Go.WideShapes.add_plain,Lib.cell_of_heap hc];simp[hc2,hj]
   ·have hj2:j<l.length:=by
     have:=(List.getElem?_eq_some_iff.1 hj).1;simpa using this
    obtain⟨z,hz1,hz2⟩:=he j m hm;simp[hj2,hz1]at hj;rw[← hj];exact hz2
 obtain⟨olds,ho1,ho2,ho3⟩:=hex
 have hes:∀u∈es,u.oneCell'=true:=by
  intro u hu;obtain⟨p,n,c,rfl⟩:=hL.slices u hu;rfl
 have hbytes:∀ {w'':World} {own'':Nat→Nat},Xb (fun k=>own k=t) w w''→(∀ k,k<w.heap.size→own'' k=own k)→∀(j:Nat) (m:Msg),(l++l2)[j]?=some m→∀y,(olds++es)[j]?=some y→BytesAt w'' own'' 0 y m:=by
  intro w'' own'' hk hown j m hm y hy
  have hb:BytesAt w own 0 y m:=by
   by_cases hj:j<l.length
   ·rw[List.getElem?_append_left hj]at hm;rw[List.getElem?_append_left (by omega)]at hy;exact ho3 j y m hy hm
   ·rw[List.getElem?_append_right (by omega)]at hm;rw[List.getElem?_append_right (by omega)]at hy;rw[ho1,Nat.mul_one]at hy;exact hL.each _ y m hy hm
  exact hb.keeps hk (fun k hk=>by rw[hk];exact ht) hown
 -- a row of its own, new
 have hgrown:∀v' w',w'.ownsRow w.heap.size 28 1 v' (l.length+l2.length) (olds++es)→w.grownBy w' none→0<l.length+l2.length→∃own',(∃ p cap,v'=.slice p (l++l2).length cap)∧Way w' own' t v' (l++l2)∧Xb (fun k=>own k=t) w w'∧(∀ k,k<w.heap.size→own' k=own k)∧(∀ k,w'.heap.size≤k→own' k=0):=by
  intro v' w' hrow hg hpos;have hK1:Xb (fun k=>own k=t) w w':=(Xb.grown hg).mono (fun k hk=>by cases hk);have hold:∀k,k<w.heap.size→XZ own w.heap.size w'.heap.size t k=own k:=fun k hk=>XR hk
  have hz:=hg.size;rcases hrow.2 with⟨_,h0⟩|⟨g,cap',cur,rfl,hge,hcg,hcl,hcm,hcs,htk⟩
  ·omega
  ·refine ⟨XZ own w.heap.size w'.heap.size t,⟨_,cap',by rw[List.length_append]⟩,⟨_,cap',by rw[List.length_append],by rw[List.length_append];exact hcl,hcm,.inr ⟨g,0,cur,rfl,YJ hge (Array.getElem?_eq_some_iff.1 hcg).1,hcg,by omega,fun j m hm=> ?_⟩⟩,hK1,hold,fun k hk=>ZI (by omega) hk⟩
   have hj:j<l.length+l2.length:=by
    have:=(List.getElem?_eq_some_iff.1 hm).1;simpa using this
   obtain⟨y,hjo⟩:∃y,(olds++es)[j]?=some y:=⟨_,List.getElem?_eq_getElem (show j<(olds++es).length by rw[List.length_append];omega)⟩;refine⟨_,?_,hbytes hK1 hold j m hm _ hjo⟩
   have e1:cur.toList[j]?=(olds++es)[j]?:=by
    rw[← htk,List.getElem?_take,if_pos (by omega)]
   rw[Nat.zero_add,←hjo,←e1];simp
 -- the list that is appended
 rcases hL.row.2 with⟨rfl,h0⟩|⟨g2,cap2,cur2,rfl,_,hc2,hn2,hm2,hs2,ht2⟩
 ·have hl2:l2=[]:=List.eq_nil_of_length_eq_zero h0;subst hl2;have hes0:es=[]:=List.eq_nil_of_length_eq_zero (by simpa using hel);refine⟨.slice p l.length cap,w,own,?_,⟨p,cap,by simp⟩,?_,Xb.refl _ _,fun _ _=>rfl,hn⟩
  ·rcases h3 with⟨rfl,rfl⟩|⟨g,off,cur,rfl,hg,hc,hsz,he⟩
   ·have e0:l.length=0:=by omega
    rw[e0];exact run_append_owned_none w 0 _ _ _ i1 1 Tryz.underlying38 hi1 _ 0 [] (World.ownsRow_nil _ _ _ _)
   ·have:=run_append_room_src (P:=Tryz.prog) w _ _ ty _ i1 Tryz.underlying38 hi1 g off l.length cap (.slice none 0 0) 0 [] (Src.ofNil w Tryz.underlying38 0) h1 (by simp) (by simp);simpa[World.setCells]using this
  ·rw[List.append_nil];exact⟨p,cap,rfl,h1,h2,h3⟩
 ·have hnews:∀j u,es[j]?=some u→w.cell? ((⟨g2,0,none⟩:Addr).add j)=some u:=by
   intro j u hj;have hjl:=(List.getElem?_eq_some_iff.1 hj).1;rw[Go.WideShapes.add_plain,Nat.zero_add,hL.row.cellAt j (by omega)];exact hj
  by_cases hpos:0<l.length+l2.length
  ·rcases h3 with⟨rfl,rfl⟩|⟨g,off,cur,rfl,hg,hc,hsz,he⟩
   ·have e0:l.length=0:=by omega
    have eo:olds=[]:=List.eq_nil_of_length_eq_zero (by omega);obtain⟨v',w',hr,hown,hg,_⟩:=run_append_own_at (P:=Tryz.prog) w w.heap.size _ ty 28 i1 _ 1 24 Tryz.underlying38 hi1 hy0 hy1 hy2 rfl (by decide) (.slice none 0 0) 0 [] (World.ownsRow_nil _ _ _ _) ⟨g2,0,none⟩ l2.length cap2 es (by omega) hnews hes (by unfold maxLen;omega) (by omega) (Nat.le_refl _);rw[e0];obtain⟨own',q1,q2,q3,q4,q5⟩:=hgrown v' w' (by rw[e0,eo];exact hown) hg hpos;exact⟨v',w',own',hr,q1,q2,q3,q4,q5⟩
   ·by_cases hr:l.length+l2.length≤cap
    ·obtain ⟨cur',hc',hs',hlo,hin⟩:=XeH g 28 (0,0) es (off+l.length*1) w cur hc (by omega);have hKg:=XeI g es (off+l.length*1) w;have hK1:Xb (fun k=>own k=t) w (w.setCells g (off+l.length*1) es):=hKg.mono (fun k hk=>by rw[hk];exact hg)
     have hrun:=run_append_room_cells (P:=Tryz.prog) w _ ty _ i1 Tryz.underlying38 hi1 g off l.length cap ⟨g2,0,none⟩ l2.length cap2 es (by rw[hy1];omega) hnews hes hr (fun j hj=>by
      have h7:off+l.length*i1.size+j<cur.size:=by rw[hy1];omega
      rw[Lib.cell_of_heap hc];show(cur[off+l.length*i1.size+j]?).isSome=true
      rw[Array.getElem?_eq_getElem h7];rfl) (fun j hj=>Lib.frozen_of_heap hc _)
     rw[hy1]at hrun;refine⟨_,_,own,hrun,⟨_,cap,by rw[List.length_append]⟩,⟨_,cap,by rw[List.length_append],by rw[List.length_append];exact hr,h2,.inr ⟨g,off,cur',rfl,hg,hc',by omega,fun j m hm=> ?_⟩⟩,hK1,fun _ _=>rfl,fun k hk=>hn k (Nat.le_trans hKg.size hk)⟩
     have hj:j<l.length+l2.length:=by
      have:=(List.getElem?_eq_some_iff.1 hm).1;simpa using this
     obtain⟨y,hjo⟩:∃y,(olds++es)[j]?=some y:=⟨_,List.getElem?_eq_getElem (show j<(olds++es).length by rw[List.length_append];omega)⟩;refine⟨_,?_,hbytes hK1 (fun _ _=>rfl) j m hm _ hjo⟩;rw[← hjo];by_cases hjl:j<l.length
     ·rw[List.getElem?_append_left (by omega),hlo (off+j) (by omega)];have h5:olds[j]?=some olds[j]:=List.getElem?_eq_getElem (by omega);have h6:=ho2 _ rfl j _ h5;rw[Go.WideShapes.add_plain,Lib.cell_of_heap hc]at h6;rw[h6,h5]
     ·rw[List.getElem?_append_right (by omega),show off+j=off+l.length*1+(j-l.length) by omega,hin (j-l.length) (by omega),ho1,Nat.mul_one]
    ·obtain ⟨v',w',hrun,hown,hg2⟩:=run_append_arg_grows (P:=Tryz.prog) w _ ty 28 i1 _ 1 24 Tryz.underlying38 hi1 hy0 hy1 hy2 rfl (by decide) ⟨g,off,none⟩ l.length cap olds ho1 (ho2 _ rfl) ⟨g2,0,none⟩ l2.length cap2 es (by omega) hnews (by omega) (by unfold maxLen;omega) (by omega);obtain⟨own',q1,q2,q3,q4,q5⟩:=hgrown v' w' hown hg2 hpos;exact⟨v',w',own',hrun,q1,q2,q3,q4,q5⟩
  ·have e1:l.length=0:=by omega
   have e2:l2.length=0:=by omega
   have el:l=[]:=List.eq_nil_of_length_eq_zero e1;have el2:l2=[]:=List.eq_nil_of_length_eq_zero e2;subst el el2;rcases h3 with⟨rfl,rfl⟩|⟨g,off,cur,rfl,hg,hc,hsz,he⟩
   ·exact ⟨.slice none 0 0,w,own,JX w _ _ _ i1 Tryz.underlying38 hi1 _ _,⟨none,0,rfl⟩,Way.nil _ _ _,Xb.refl _ _,fun _ _=>rfl,hn⟩
   ·have hes0:es=[]:=List.eq_nil_of_length_eq_zero (by simpa using hel);subst hes0;have:=run_append_room_cells (P:=Tryz.prog) w _ ty _ i1 Tryz.underlying38 hi1 g off 0 cap ⟨g2,0,none⟩ 0 cap2 [] (by simp) (by simp) (by simp) (by omega) (by simp) (by simp);exact⟨_,_,own,by simpa[World.setCells]using this,⟨_,cap,rfl⟩,⟨_,cap,rfl,h1,h2,.inr ⟨g,off,cur,rfl,hg,hc,hsz,he⟩⟩,Xb.refl _ _,fun _ _=>rfl,hn⟩
end
end Go.Proofs.YtkalonhalhdlaaaGreatDoor
