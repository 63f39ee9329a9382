import Derived.Test.YtkalonhalhdlaaaGreatDoorTCall3
import Derived.Test.YtkalonhalhdlaaaGreatDoorG18
import Derived.Test.YtkalonhalhdlaaaGreatDoorTWay
set_option maxHeartbeats 8000000
set_option maxRecDepth 1000000
namespace Go.Proofs.YtkalonhalhdlaaaGreatDoor
open Go.RowKit
section
variable {w W:World}{own:Nat→Nat}{i b:Nat}{c:Cfg}{s:St}{cl:Bool}{q cm o ev:Value}{ce oe:List Value}
theorem Xhp (h:TAt w own i b c s cl q cm o ev ce oe)(hl:s.out.length+18≤2199023255552):
  Calls Tryz.prog 52 #[.pointer (some ⟨b,0,none⟩)] w fun e w'=>Yn (if cl then 8 else(X4 c s).1) i b c (if cl then s else(X4 c s).2) cl own w e w':=by
 cases cl with
 |true=>exact Xed h
 |false=>
  have h4:=h.sok.state;simp only[Bool.false_eq_true,if_false];unfold X4;by_cases hs:s.state=0∨s.state=4
  ·rw[if_pos hs];exact Xiu h hs (by omega)
  ·rw[if_neg hs];have hcs:s.state=1∨s.state=2∨s.state=3:=by omega
   exact Xit h hcs
theorem Xj9 (h:TAt w own i b c s cl q cm o ev ce oe)(hl:s.out.length+18≤2199023255552):
  Calls Tryz.prog 54 #[.pointer (some ⟨b,0,none⟩)] w fun e w'=>Yn (if cl then 8 else(YF c s).1) i b c (if cl then s else(YF c s).2) cl own w e w':=by
 cases cl with
 |true=>exact XfU h
 |false=>
  have h4:=h.sok.state;simp only[Bool.false_eq_true,if_false];unfold YF;by_cases hs:s.state=0∨s.state=3
  ·rw[if_pos hs];exact Xl7 h hs
  ·rw[if_neg hs];have hcs:s.state=1∨s.state=2∨s.state=4:=by omega
   exact Xl8 h hcs (by omega)
theorem XlU (h:TAt w own i b c s cl q cm o ev ce oe)(on:Bool)(hl:s.out.length+18≤2199023255552):
  Calls Tryz.prog 58 #[.pointer (some ⟨b,0,none⟩),.bool on] w fun e w'=>Yn (if cl then 8 else 0) i b c (if cl then s else Qz c on s) cl own w e w':=by
 cases cl with
 |true=>exact Xho h on
 |false=>exact Xnn h on (by omega)
theorem Xj5 (h:TAt w own i b c s cl q cm o ev ce oe):
  Calls Tryz.prog 60 #[.pointer (some ⟨b,0,none⟩)] w fun e w'=>Yn (if cl then 8 else 0) i b c s true own w e w':=by
 cases cl with
 |true=>exact XfR h
 |false=>exact XlV h
theorem Xmb (h:TAt w own i b c s cl q cm o ev ce oe)(hok:s.ok c)(hl:s.out.length+18≤2199023255552)(hl2:s.events.length+2≤2199023255552):
  Calls Tryz.prog 62 #[.pointer (some ⟨b,0,none⟩)] w fun e w'=>Yn (if cl then 8 else 0) i b c (if cl then s else Jd c s) cl own w e w':=by
 cases cl with
 |true=>exact Xhx h
 |false=>
  simp only[Bool.false_eq_true,if_false];have h4:=h.sok.state;have htr:=h.sok.tries;unfold Jd;by_cases h0:s.timer=0
  ·rw[if_pos h0];exact XoA h h0
  ·rw[if_neg h0];by_cases h1:s.timer=1
   ·rw[if_pos h1];have hn0:¬(s.state=0∨s.state=4):=fun hh=>h0 (hok.tim0 hh)
    unfold Zd;by_cases hr:s.tries=c.tri
    ·rw[if_pos hr];exact Xmc h h1 hr (by omega)
    ·rw[if_neg hr];have hcs:s.state=1∨s.state=3∨s.state=2:=by omega
     rcases hcs with e|e|e
     ·rw[if_pos e];have k:=Xnv h h1 (by omega) e (by omega);exact k
     ·rw[if_neg (by show ¬s.state=1;omega),if_pos e];have k:=Xnx h h1 (by omega) e (by omega);exact k
     ·rw[if_neg (by show ¬s.state=1;omega),if_neg (by show ¬s.state=3;omega),if_pos e];have k:=Xnw h h1 (by omega) e (by omega);exact k
   ·rw[if_neg h1];exact XoB h (by omega)
theorem XlX (h:TAt w own i b c s cl q cm o ev ce oe)(hok:s.ok c)(p:Option Addr)(cp:Nat)(l:List UInt8)(hsrc:XU w p l)(hll:l.length≤1048576)(hcp:l.length≤cp)(hl:s.out.length+32≤2199023255552)(hl2:s.events.length+2≤2199023255552):
  Calls Tryz.prog 94 #[.pointer (some ⟨b,0,none⟩),.slice p l.length cp] w fun e w'=>Yn (if cl then 8 else(Yy c l s).1) i b c (if cl then s else(Yy c l s).2) cl own w e w':=by
 cases cl with
 |true=>exact Xhr h _
 |false=>
  simp only[Bool.false_eq_true,if_false];have h4:=h.sok.state;unfold Yy;by_cases he:(Xi c.m l).1≠0
  ·rw[if_pos he];exact XlY h p cp l hsrc hll hcp he
  ·rw[if_neg he];have he0:(Xi c.m l).1=0:=by omega
   have hk:=XjO c.m l he0;obtain⟨n,hn,hnm⟩:=Xa0 c.m h.cok.m l;have hrd:Xi c.m l=(0,(Xi c.m l).2):=by rw[← he0]
   generalize (Xi c.m l).2=f at*;obtain⟨fa,fk,fp,fns,fnr,info⟩:=f;simp only at hk hn;subst hn;by_cases hh:Zf c (⟨fa,fk,fp,fns,(n:Nat),info⟩:Fr)=true
   ·simp only[hh,if_true];have hcs:s.state=0∨s.state=1∨s.state=2∨s.state=3∨s.state=4:=by omega
    unfold Yr;rcases hcs with e|e|e|e|e
    ·rw[if_pos e];exact Xj6 h e p cp l fa fk fp fns (n:Nat) info hsrc hll hcp hrd hk hh hl (by omega)
    ·rw[if_neg (by omega),if_pos e];exact XfS h e p cp l fa fk fp fns (n:Nat) info hsrc hll hcp hrd hk hh hl (by omega)
    ·rw[if_neg (by omega),if_neg (by omega),if_pos e];exact Xno h hok e p cp l fa fk fp fns n hnm info hsrc hll hcp hrd hk hh hl (by omega)
    ·rw[if_neg (by omega),if_neg (by omega),if_neg (by omega),if_pos e];exact XfT h e p cp l fa fk fp fns (n:Nat) info hsrc hll hcp hrd hk hh hl (by omega)
    ·rw[if_neg (by omega),if_neg (by omega),if_neg (by omega),if_neg (by omega),if_pos e];exact Xhq h e p cp l fa fk fp fns (n:Nat) info hsrc hll hcp hrd hk hh hl (by omega)
   ·have hh0:Zf c (⟨fa,fk,fp,fns,(n:Nat),info⟩:Fr)=false:=eq_false_of_ne_true hh;simp only[hh0,Bool.false_eq_true,if_false];have hkc:(fk=1∨fk=5∨fk=6)∨(fk=7∨fk=8∨fk=9)∨fk=2∨fk=3∨fk=4:=by omega
    rcases hkc with h1|h1|h1
    ·have e:Zf c (⟨fa,fk,fp,fns,(n:Nat),info⟩:Fr)=(fa==(c.addr:Int)):=by rcases h1 with rfl|rfl|rfl <;> rfl
     have hc0:(fa==(c.addr:Int))=false:=by rw[← e];exact hh0
     rcases h1 with rfl|rfl|rfl
     ·exact XlZ h p cp l fa fp fns (n:Nat) info hsrc hll hcp hrd hc0
     ·exact Xl0 h p cp l fa fp fns (n:Nat) info hsrc hll hcp hrd hc0
     ·exact Xl1 h p cp l fa fp fns (n:Nat) info hsrc hll hcp hrd hc0
    ·have e:Zf c (⟨fa,fk,fp,fns,(n:Nat),info⟩:Fr)=!(fa==(c.addr:Int)):=by rcases h1 with rfl|rfl|rfl <;> rfl
     have hc0:(fa==(c.addr:Int))=true:=by rw[e]at hh0;simpa using hh0
     rcases h1 with rfl|rfl|rfl
     ·exact Xl2 h p cp l fa fp fns (n:Nat) info hsrc hll hcp hrd hc0
     ·exact Xl3 h p cp l fa fp fns (n:Nat) info hsrc hll hcp hrd hc0
     ·exact Xl4 h p cp l fa fp fns (n:Nat) info hsrc hll hcp hrd hc0
    ·have e:Zf c (⟨fa,fk,fp,fns,(n:Nat),info⟩:Fr)=true:=by rcases h1 with rfl|rfl|rfl <;> rfl
     rw[e]at hh0;cases hh0
end
theorem Lst.Jj {w w':World}{own own':Nat→Nat}{t:Nat}{v:Value}{ents:List Value}{l:List Msg}{X:Nat→Prop}(h:Lst w own t v ents l)(hk:Xb X w w')(hx:∀k,X k→own k≠t)(ho:∀k,k<w.heap.size→own k=t→own' k=own k):Lst w' own' t v ents l:=
 ⟨Xc h.row hk (fun k hb hX=>hx k hX (h.rown k hb)),fun k hb=>(ho k (World.ownsRow.lt h.row k hb).2 (h.rown k hb)).trans (h.rown k hb),fun j y mm h1 h2=>by
  have hb:=h.each j y mm h1 h2;exact⟨Xc hb.1 hk (fun k hbk hX=>hx k hX (hb.2 k hbk)),fun k hbk=>(ho k (World.ownsRow.lt hb.1 k hbk).2 (hb.2 k hbk)).trans (hb.2 k hbk)⟩,h.apart⟩
theorem YZ.Jj {w w':World}{own own':Nat→Nat}{t:Nat}{v:Value}{l:List Msg}{X:Nat→Prop}(h:YZ w own t v l)(hk:Xb X w w')(hx:∀k,X k→own k≠t)(ho:∀k,k<w.heap.size→own k=t→own' k=own k):YZ w' own' t v l:=by
 obtain⟨p,cap,rfl,h1,h2,h3⟩:=h;refine⟨p,cap,rfl,h1,h2,?_⟩;rcases h3 with h3|⟨g,off,cur,rfl,hg,hc,hs,he⟩
 ·exact .inl h3
 ·have hlt:=(Array.getElem?_eq_some_iff.1 hc).1;refine .inr ⟨g,off,cur,rfl,(ho g hlt hg).trans hg,?_,hs,fun j m hj=> ?_⟩
  ·rw[hk.block g hlt (fun hX=>hx g hX hg)];exact hc
  ·obtain ⟨x,hx1,hb⟩:=he j m hj;exact⟨x,hx1,Xc hb.1 hk (fun k hbk hX=>hx k hX (hb.2 k hbk)),fun k hbk=>(ho k (World.ownsRow.lt hb.1 k hbk).2 (hb.2 k hbk)).trans (hb.2 k hbk)⟩
section
variable {w w':World}{own own':Nat→Nat}{i b:Nat}{c:Cfg}{s:St}{cl:Bool}
theorem Stn.beside (h:Stn w own i b c s cl){X:Nat→Prop}(hk:Xb X w w')(hx:∀k,X k→∀p,p<5→own k≠tg i p)(hx0:¬X 0)(ho:∀k,k<w.heap.size→(∃ p,p<5∧own k=tg i p)→own' k=own k)(h0:own' 0=0)(hn:∀k,w'.heap.size≤k→own' k=0):Stn w' own' i b c s cl:=by
 obtain⟨ch,q,cm,o,ev,qe,ce,oe,h⟩:=h;have hlc:=(Array.getElem?_eq_some_iff.1 h.chan).1;have hx':∀p,p<5→∀k,X k→own k≠tg i p:=fun p hp k hX=>hx k hX p hp
 have ho':∀p,p<5→∀k,k<w.heap.size→own k=tg i p→own' k=own k:=fun p hp k hk e=>ho k hk ⟨p,hp,e⟩
 refine⟨ch,q,cm,o,ev,qe,ce,oe,?_,(ho' 0 (by omega) b h.lt h.ownb).trans h.ownb,?_,(ho' 0 (by omega) ch hlc h.ownc).trans h.ownc,h.lq.Jj hk (hx' 1 (by omega)) (ho' 1 (by omega)),h.lcm.Jj hk (hx' 2 (by omega)) (ho' 2 (by omega)),h.lo.Jj hk (hx' 3 (by omega)) (ho' 3 (by omega)),Xc h.lev hk (fun k hb hX=>hx' 4 (by omega) k hX (h.owne k hb)),fun k hb=>(ho' 4 (by omega) k (World.ownsRow.lt h.lev k hb).2 (h.owne k hb)).trans (h.owne k hb),h.ctl.keeps hk h.pos hx0,h0,hn,h.cok,h.sok⟩
 ·rw[hk.block b h.lt (fun hX=>hx' 0 (by omega) b hX h.ownb)];exact h.head
 ·rw[hk.block ch hlc (fun hX=>hx' 0 (by omega) ch hX h.ownc)];exact h.chan
theorem Ttn.beside (h:Ttn w own i b c s cl){X:Nat→Prop}(hk:Xb X w w')(hx:∀k,X k→∀p,p<5→own k≠tg i p)(ho:∀k,k<w.heap.size→(∃ p,p<5∧own k=tg i p)→own' k=own k)(h0:own' 0=0)(hn:∀k,w'.heap.size≤k→own' k=0):Ttn w' own' i b c s cl:=by
 obtain⟨q,cm,o,ev,ce,oe,h⟩:=h;have hx':∀p,p<5→∀k,X k→own k≠tg i p:=fun p hp k hX=>hx k hX p hp
 have ho':∀p,p<5→∀k,k<w.heap.size→own k=tg i p→own' k=own k:=fun p hp k hk e=>ho k hk ⟨p,hp,e⟩
 refine⟨q,cm,o,ev,ce,oe,?_,(ho' 0 (by omega) b h.lt h.ownb).trans h.ownb,h.lq.Jj hk (hx' 1 (by omega)) (ho' 1 (by omega)),h.lcm.Jj hk (hx' 2 (by omega)) (ho' 2 (by omega)),h.lo.Jj hk (hx' 3 (by omega)) (ho' 3 (by omega)),Xc h.lev hk (fun k hb hX=>hx' 4 (by omega) k hX (h.owne k hb)),fun k hb=>(ho' 4 (by omega) k (World.ownsRow.lt h.lev k hb).2 (h.owne k hb)).trans (h.owne k hb),h0,hn,h.cok,h.sok⟩;rw[hk.block b h.lt (fun hX=>hx' 0 (by omega) b hX h.ownb)];exact h.head
theorem Stn.Xp (h:Stn w own i b c s cl):∀k,w.heap.size≤k→own k=0:=by
 obtain⟨ch,q,cm,o,ev,qe,ce,oe,h⟩:=h;exact h.Xp
theorem Ttn.Xp (h:Ttn w own i b c s cl):∀k,w.heap.size≤k→own k=0:=by
 obtain⟨q,cm,o,ev,ce,oe,h⟩:=h;exact h.Xp
theorem Stn.XC (h:Stn w own i b c s cl):own 0=0:=by
 obtain⟨ch,q,cm,o,ev,qe,ce,oe,h⟩:=h;exact h.XC
theorem Ttn.XC (h:Ttn w own i b c s cl):own 0=0:=by
 obtain⟨q,cm,o,ev,ce,oe,h⟩:=h;exact h.XC
end
structure Post where
 pb:Nat
 rb:Nat
 c:Cfg
 s:St
 cl:Bool
 t:St
 dl:Bool
def Post.even (p:Post):Prop:=p.t=p.s∧p.dl=p.cl
def Yb (p:Post):Value:=.agg #[.pointer (some ⟨p.pb,0,none⟩),.pointer (some ⟨p.rb,0,none⟩)]
def X7:List Post→List Value
 | []=> []
 |p::r=>.pointer (some ⟨p.pb,0,none⟩):: .pointer (some ⟨p.rb,0,none⟩)::X7 r
theorem Xdk (es fs:List Post):X7 (es++fs)=X7 es++X7 fs:=by
 induction es with
 |nil=>rfl
 |cons x r ih=>simp[X7,ih]
theorem Xb2 (es:List Post)(i:Nat)(hi:i<es.length):(X7 es)[i*2]?=some (.pointer (some ⟨es[i].pb,0,none⟩))∧(X7 es)[i*2+1]?=some (.pointer (some ⟨es[i].rb,0,none⟩)):=by
 induction es generalizing i with
 |nil=>simp at hi
 |cons x r ih=>
  cases i with
  |zero=>simp[X7]
  |succ i=>
   have:=ih i (by simpa using hi);rw[show(i+1)*2=i*2+1+1 by omega];simpa[X7]using this
theorem Xb3 (es:List Post)(i:Nat)(e p:Post)(hi:es[i]?=some p)(h1:e.pb=p.pb)(h2:e.rb=p.rb):X7 (es.set i e)=X7 es:=by
 induction es generalizing i with
 |nil=>simp at hi
 |cons x r ih=>
  cases i with
  |zero=>simp at hi;subst hi;simp[X7,h1,h2]
  |succ i=>simp[X7,ih i (by simpa using hi)]
def Je (wb:Nat)(ss:Value)(x:Lw)(k:Nat):Prop:=Zg wb x k∨x.hs.ownBlock=some k∨ss.ownBlock=some k
structure Xx (B:Nat)(w:World)(wb:Nat)(own:Nat→Nat)(ss:Value)(x:Lw)(ps:List Post):Prop where
 lw:Yt B w wb ss x
 row:w.ownsRow 0 56 2 ss ps.length (X7 ps)
 st:∀n p,ps[n]?=some p→Stn w own (2*n) p.pb p.c p.s p.cl
 rt:∀n p,ps[n]?=some p→Ttn w own (2*n+1) p.rb p.c p.t p.dl
 ok:∀p∈ps,p.s.ok p.c∧p.t.ok p.c
 free:∀k,own k≠0→¬Je wb ss x k
 loS:∀k,ss.ownBlock=some k→B≤k
 lo:∀k,own k≠0→B≤k
 XC:own 0=0
 Xp:∀k,w.heap.size≤k→own k=0
 ctl:Ctl w
 pos:0<B
 top:B≤w.heap.size
structure Calm (own own':Nat→Nat)(w w':World):Prop where
 keeps:Xb (fun k=>own k≠0) w w'
 zero:∀k,k<w.heap.size→own k=0→own' k=0
theorem Calm.refl (own:Nat→Nat)(w:World):Calm own own w w:=⟨Xb.refl _ _,fun _ _ h=>h⟩
theorem Calm.trans {o1 o2 o3:Nat→Nat}{a b c:World}(h:Calm o1 o2 a b)(k:Calm o2 o3 b c):Calm o1 o3 a c:=by
 refine⟨⟨k.keeps.os.trans h.keeps.os,k.keeps.tape.trans h.keeps.tape,k.keeps.output.trans h.keeps.output,Nat.le_trans h.keeps.size k.keeps.size,fun j hj hx=> ?_⟩,fun j hj e=>k.zero j (Nat.lt_of_lt_of_le hj h.keeps.size) (h.zero j hj e)⟩;have e:o1 j=0:=Classical.byContradiction hx;rw[k.keeps.block j (Nat.lt_of_lt_of_le hj h.keeps.size) (fun hh=>hh (h.zero j hj e))];exact h.keeps.block j hj hx
theorem Calm.of {own:Nat→Nat}{w w':World}(hb:Below w.heap.size w w'):Calm own own w w':=⟨Xb.of hb,fun _ _ h=>h⟩
theorem Qb.calm {i:Nat}{own own':Nat→Nat}{w w':World}(h:Qb i own own' w w'):Calm own own' w w':=
 ⟨h.keeps.mono (fun k ⟨p,_,e⟩=>by rw[e];exact Xq _ _),fun k hk e=>by
  rcases h.same k hk with h1|⟨_,h1⟩
  ·rw[h1,e]
  ·exact h1⟩
theorem Calm.lst {own own':Nat→Nat}{w w':World}(h:Calm own own' w w'){v:Value}{ents:List Value}{l:List Msg}(hl:Lst w own 0 v ents l):Lst w' own' 0 v ents l:=
 hl.Jj h.keeps (fun _ hx=>hx) (fun k hk e=>(h.zero k hk e).trans e.symm)
theorem Yt.turned {B:Nat}{w w':World}{wb:Nat}{ss:Value}{x:Lw}{X:Nat→Prop}(h:Yt B w wb ss x)(hk:Xb X w w')(hx:∀k,Zg wb x k∨x.hs.ownBlock=some k→¬X k):Yt B w' wb ss x:=
 ⟨h.bk.turned hk (hx _ (.inl (.inl rfl))) (fun k hk=>hx k (.inl (.inr (.inl hk)))),Xc h.row hk (fun k hk=>hx k (.inr hk)),fun e he=>(h.ears e he).turned hk (fun k hk=>hx k (.inl (.inr (.inr ⟨e,he,hk⟩)))),h.apart,h.lo,h.loH,h.loB,h.loE⟩
theorem Yt.below {B:Nat}{w:World}{wb:Nat}{ss:Value}{x:Lw}(h:Yt B w wb ss x){k:Nat}(hk:Zg wb x k∨x.hs.ownBlock=some k):B≤k∧k<w.heap.size:=by
 rcases hk with(rfl|hk|⟨e,he,hk⟩)|hk
 ·refine ⟨h.lo,?_⟩;have:=h.bk.head;unfold WAt at this;exact(Array.getElem?_eq_some_iff.1 this).1
 ·exact ⟨h.loB k hk,h.bk.lt hk⟩
 ·exact ⟨h.loE e he k hk,(h.ears e he).lt hk⟩
 ·exact ⟨h.loH k hk,(h.row.lt k hk).2⟩
section
variable {B:Nat}{w w':World}{wb:Nat}{own own':Nat→Nat}{ss:Value}{x:Lw}{ps:List Post}
theorem Xx.below (h:Xx B w wb own ss x ps){k:Nat}(hk:Je wb ss x k):B≤k∧k<w.heap.size:=by
 rcases hk with hk|hk|hk
 ·exact h.lw.below (.inl hk)
 ·exact h.lw.below (.inr hk)
 ·exact ⟨h.loS k hk,(h.row.lt k hk).2⟩
theorem Xx.XcJ (h:Xx B w wb own ss x ps){k:Nat}(hk:Je wb ss x k):own k=0:=Classical.byContradiction fun e=>h.free k e hk
theorem Xx.turned {X:Nat→Prop}(h:Xx B w wb own ss x ps)(hk:Xb X w w')(hx:∀k,X k→own k=0∧B≤k∧¬Je wb ss x k):Xx B w' wb own ss x ps:=by
 have hp:=h.pos;have hx0:¬X 0:=fun e=>by have:=(hx 0 e).2.1;omega
 have hxt:∀i k,X k→∀p,p<5→own k≠tg i p:=fun i k hX p _ e=>Xq i p (e.symm.trans (hx k hX).1)
 have hn:∀k,w'.heap.size≤k→own k=0:=fun k hs=>h.Xp k (Nat.le_trans hk.size hs)
 refine⟨h.lw.turned hk (fun k hg hX=> ?_),Xc h.row hk (fun k hg hX=>(hx k hX).2.2 (.inr (.inr hg))),fun n p hn'=>(h.st n p hn').beside hk (hxt _) hx0 (fun _ _ _=>rfl) h.XC hn,fun n p hn'=>(h.rt n p hn').beside hk (hxt _) (fun _ _ _=>rfl) h.XC hn,h.ok,h.free,h.loS,h.lo,h.XC,hn,h.ctl.keeps hk (Nat.lt_of_lt_of_le h.pos h.top) hx0,h.pos,Nat.le_trans h.top hk.size⟩;rcases hg with hg|hg
 ·exact (hx k hX).2.2 (.inl hg)
 ·exact (hx k hX).2.2 (.inr (.inl hg))
theorem Xx.later (h:Xx B w wb own ss x ps)(hb:Below w.heap.size w w'):Xx B w' wb own ss x ps:=
 h.turned (X:=fun _=>False) (Xb.of hb) (fun _ hX=>absurd hX id)
theorem Xx.worked (h:Xx B w wb own ss x ps){i:Nat}(hu:Qb i own own' w w')(h0:own' 0=0)(hn:∀k,w'.heap.size≤k→own' k=0):
  Yt B w' wb ss x∧w'.ownsRow 0 56 2 ss ps.length (X7 ps)∧
  (∀ n p,ps[n]?=some p→2*n≠i→Stn w' own' (2*n) p.pb p.c p.s p.cl)∧(∀ n p,ps[n]?=some p→2*n+1≠i→Ttn w' own' (2*n+1) p.rb p.c p.t p.dl)∧
  (∀ k,own' k≠0→¬Je wb ss x k)∧(∀ k,own' k≠0→B≤k)∧Ctl w'∧B≤w'.heap.size∧Below B w w':=by
 have hx0:∀k,(∃ p,p<5∧own k=tg i p)→own k≠0:=fun k ⟨p,_,e⟩=>by rw[e];exact Xq _ _
 have hxj:∀j q,q<5→j≠i→∀k,(∃ p,p<5∧own k=tg i p)→own k≠tg j q:=fun j q hq hj k ⟨p,hp,e⟩=>by rw[e];exact Xz hp hq (.inl (fun e=>hj e.symm))
 have hsame:∀k,k<w.heap.size→¬(∃ p,p<5∧own k=tg i p)→own' k=own k:=fun k hk hne=>by
  rcases hu.same k hk with e|⟨e,_⟩
  ·exact e
  ·exact absurd e hne
 have hsj:∀j,j≠i→∀k,k<w.heap.size→(∃ q,q<5∧own k=tg j q)→own' k=own k:=fun j hj k hk ⟨q,hq,e⟩=>hsame k hk (fun hh=>hxj j q hq hj k hh e)
 have hX0:¬∃p,p<5∧own 0=tg i p:=fun hh=>hx0 0 hh h.XC
 refine⟨h.lw.turned hu.keeps (fun k hg hX=>h.free k (hx0 k hX) ?_),Xc h.row hu.keeps (fun k hg hX=>h.free k (hx0 k hX) (.inr (.inr hg))),fun n p hp hne=>(h.st n p hp).beside hu.keeps (fun k hX q hq=>hxj _ q hq hne k hX) hX0 (hsj _ hne) h0 hn,fun n p hp hne=>(h.rt n p hp).beside hu.keeps (fun k hX q hq=>hxj _ q hq hne k hX) (hsj _ hne) h0 hn,?_,?_,h.ctl.keeps hu.keeps (Nat.lt_of_lt_of_le h.pos h.top) hX0,Nat.le_trans h.top hu.keeps.size,?_⟩
 ·rcases hg with hg|hg
  ·exact .inl hg
  ·exact .inr (.inl hg)
 ·intro k hk hg;have hl:=h.below hg;have e0:=h.XcJ hg;exact hk ((hsame k hl.2 (fun hh=>hx0 k hh e0)).trans e0)
 ·intro k hk;by_cases hl:k<w.heap.size
  ·refine h.lo k (fun e0=>hk ?_);exact(hsame k hl (fun hh=>hx0 k hh e0)).trans e0
  ·have:=h.top;omega
 ·refine ⟨hu.keeps.os,hu.keeps.tape,hu.keeps.output,hu.keeps.size,fun k hk=> ?_⟩;by_cases hl:k<w.heap.size
  ·exact hu.keeps.block k hl (fun hh=>by have:=h.lo k (hx0 k hh);omega)
  ·have:=h.top;omega
theorem XaC {α:Type}{l:List α}{n m:Nat}{a b:α}(h:(l.set n a)[m]?=some b):(m=n∧a=b)∨(m≠n∧l[m]?=some b):=by
 rw[List.getElem?_set]at h;split at h
 ·rename_i e
  split at h
  ·exact .inl ⟨e.symm,by simpa using h⟩
  ·simp at h
 ·rename_i e
  exact .inr ⟨fun e'=>e e'.symm,h⟩
theorem Xx.called (h:Xx B w wb own ss x ps){n:Nat}{p:Post}(hp:ps[n]?=some p){s':St}{cl':Bool}(hu:Qb (2*n) own own' w w')(hs:Stn w' own' (2*n) p.pb p.c s' cl')(hok:s'.ok p.c):
  Xx B w' wb own' ss x (ps.set n {p with s:=s',cl:=cl'})∧Below B w w':=by
 obtain⟨a1,a2,a3,a4,a5,a6,a7,a8,a9⟩:=h.worked hu hs.XC hs.Xp;refine⟨⟨a1,?_,fun m r hr=> ?_,fun m r hr=> ?_,fun r hr=> ?_,a5,h.loS,a6,hs.XC,hs.Xp,a7,h.pos,a8⟩,a9⟩
 ·rw[List.length_set];have e:=Xb3 ps n {p with s:=s',cl:=cl'} p hp rfl rfl;rw[e];exact a2
 ·rcases XaC hr with⟨rfl,rfl⟩|⟨hne,hr⟩
  ·exact hs
  ·exact a3 m r hr (by omega)
 ·rcases XaC hr with⟨rfl,rfl⟩|⟨hne,hr⟩
  ·exact a4 m p hp (by omega)
  ·exact a4 m r hr (by omega)
 ·rcases List.mem_or_eq_of_mem_set hr with hr|rfl
  ·exact h.ok r hr
  ·exact ⟨hok,(h.ok p (Xl hp)).2⟩
theorem Xx.XcM (h:Xx B w wb own ss x ps){n:Nat}{p:Post}(hp:ps[n]?=some p){s':St}{cl':Bool}(hu:Qb (2*n+1) own own' w w')(hs:Ttn w' own' (2*n+1) p.rb p.c s' cl')(hok:s'.ok p.c):
  Xx B w' wb own' ss x (ps.set n {p with t:=s',dl:=cl'})∧Below B w w':=by
 obtain⟨a1,a2,a3,a4,a5,a6,a7,a8,a9⟩:=h.worked hu hs.XC hs.Xp;refine⟨⟨a1,?_,fun m r hr=> ?_,fun m r hr=> ?_,fun r hr=> ?_,a5,h.loS,a6,hs.XC,hs.Xp,a7,h.pos,a8⟩,a9⟩
 ·rw[List.length_set];have e:=Xb3 ps n {p with t:=s',dl:=cl'} p hp rfl rfl;rw[e];exact a2
 ·rcases XaC hr with⟨rfl,rfl⟩|⟨hne,hr⟩
  ·exact a3 m p hp (by omega)
  ·exact a3 m r hr (by omega)
 ·rcases XaC hr with⟨rfl,rfl⟩|⟨hne,hr⟩
  ·exact hs
  ·exact a4 m r hr (by omega)
 ·rcases List.mem_or_eq_of_mem_set hr with hr|rfl
  ·exact h.ok r hr
  ·exact ⟨(h.ok p (Xl hp)).1,hok⟩
theorem Xx.booked (h:Xx B w wb own ss x ps){b':Bk}{L:Nat→Prop}(hb:YY w' wb x.hs ss b')(hk:Xb (fun k=>k=wb∨x.b.blk k∨L k) w w')(hbb:∀k,b'.blk k→x.b.blk k∨L k∨w.heap.size≤k)
  (hL:∀k,L k→own k=0∧B≤k∧¬Je wb ss x k):Xx B w' wb own ss {x with b:=b'} ps∧Below B w w':=by
 have hp:=h.pos
 have hxl:∀k,(k=wb∨x.b.blk k∨L k)→own k=0∧B≤k:=by
  rintro k (rfl|hb|hl)
  ·exact ⟨h.XcJ (.inl (.inl rfl)),h.lw.lo⟩
  ·exact ⟨h.XcJ (.inl (.inr (.inl hb))),h.lw.loB k hb⟩
  ·exact ⟨(hL k hl).1,(hL k hl).2.1⟩
 have hx0:¬(0=wb∨x.b.blk 0∨L 0):=fun e=>by have:=(hxl 0 e).2;omega
 have hxt:∀i k,(k=wb∨x.b.blk k∨L k)→∀p,p<5→own k≠tg i p:=fun i k hX p _ e=>Xq i p (e.symm.trans (hxl k hX).1)
 have hn:∀k,w'.heap.size≤k→own k=0:=fun k hs=>h.Xp k (Nat.le_trans hk.size hs)
 have hhd:=h.lw.bk.head;unfold WAt at hhd
 -- rows and hunters are no blocks of the book's
 have hear:∀e∈x.es,∀k,e.blk k→¬(k=wb∨x.b.blk k∨L k):=by
  rintro e he k hek (rfl|hb|hl)
  ·exact (h.lw.ears e he).not hhd (by unfold QP;decide) hek
  ·obtain ⟨c,t,hc,ht⟩:=(h.lw.ears e he).ty hek;obtain⟨c2,t2,hc2,ht2⟩:=h.lw.bk.ty hb;rw[hc]at hc2;simp only[Option.some.injEq,Obj.cells.injEq]at hc2;exact Xdc ht (hc2.2.1▸ht2)
  ·exact (hL k hl).2.2 (.inl (.inr (.inr ⟨e,he,hek⟩)))
 have hrow:∀ {t:TypeId} {sz n:Nat} {u:Value} {ys:List Value},w.ownsRow 0 t sz u n ys→t≠45→¬ZW t→(∀ k,u.ownBlock=some k→Je wb ss x k)→∀k,u.ownBlock=some k→¬(k=wb∨x.b.blk k∨L k):=by
  rintro t sz n u ys hr ht1 ht2 hg k hu (rfl|hb|hl)
  ·obtain ⟨c,hc⟩:=Xd hr hu;rw[hhd]at hc;simp only[Option.some.injEq,Obj.cells.injEq]at hc;exact ht1 hc.2.1.symm
  ·obtain ⟨c,hc⟩:=Xd hr hu;obtain⟨c2,t2,hc2,h2⟩:=h.lw.bk.ty hb;rw[hc]at hc2;simp only[Option.some.injEq,Obj.cells.injEq]at hc2;exact ht2 (hc2.2.1▸h2)
  ·exact (hL k hl).2.2 (hg k hu)
 refine⟨⟨⟨hb,Xc h.lw.row hk (hrow h.lw.row (by decide) (by unfold ZW;decide) (fun k hk=>.inr (.inl hk))),fun e he=>(h.lw.ears e he).turned hk (hear e he),h.lw.apart,h.lw.lo,h.lw.loH,?_,h.lw.loE⟩,Xc h.row hk (hrow h.row (by decide) (by unfold ZW;decide) (fun k hk=>.inr (.inr hk))),fun n p hn'=>(h.st n p hn').beside hk (hxt _) hx0 (fun _ _ _=>rfl) h.XC hn,fun n p hn'=>(h.rt n p hn').beside hk (hxt _) (fun _ _ _=>rfl) h.XC hn,h.ok,?_,h.loS,h.lo,h.XC,hn,h.ctl.keeps hk (Nat.lt_of_lt_of_le h.pos h.top) hx0,h.pos,Nat.le_trans h.top hk.size⟩,⟨hk.os,hk.tape,hk.output,hk.size,fun k hlt=>hk.block k (Nat.lt_of_lt_of_le hlt h.top) (fun hX=>by have:=(hxl k hX).2;omega)⟩⟩
 ·intro k hk';rcases hbb k hk' with h1|h1|h1
  ·exact h.lw.loB k h1
  ·exact (hL k h1).2.1
  ·exact Nat.le_trans h.top h1
 ·rintro k hk' ((rfl|hg|hg)|hg)
  ·exact h.free _ hk' (.inl (.inl rfl))
  ·rcases hbb k hg with h1|h1|h1
   ·exact h.free k hk' (.inl (.inr (.inl h1)))
   ·exact hk' (hL k h1).1
   ·exact hk' (h.Xp k h1)
  ·exact h.free k hk' (.inl (.inr (.inr hg)))
  ·exact h.free k hk' (.inr hg)
end
theorem Xde {c:Cfg}{s:St}(hc:c.ok)(h:St.ok c s)(m:Msg):St.ok c (Yy c m s).2:=by
 unfold Yy;split
 ·exact h
 ·obtain ⟨nr,h1,h2⟩:=Xa0 c.m hc.m m;split
  ·exact Xgv hc h _ (by rw[h1];simpa using h2)
  ·exact h
def Post.to (p:Post)(s:St):Post:={p with s:=s,t:=s}
theorem Stn.cok {w:World}{own:Nat→Nat}{i b:Nat}{c:Cfg}{s:St}{cl:Bool}(h:Stn w own i b c s cl):c.ok:=by
 obtain⟨ch,q,cm,o,ev,qe,ce,oe,h⟩:=h;exact h.cok
def Now (B:Nat)(w:World)(wb:Nat)(own:Nat→Nat)(ss:Value)(x:Lw)(ps':List Post)(w':World):Prop:=
 ∃own',Xx B w' wb own' ss x ps'∧Calm own own' w w'∧Below B w w'
section
variable {B:Nat}{w w':World}{wb:Nat}{own own':Nat→Nat}{ss:Value}{x:Lw}{ps:List Post}
theorem Now.refl (h:Xx B w wb own ss x ps):Now B w wb own ss x ps w:=⟨own,h,Calm.refl _ _,Below.refl _ _⟩
theorem Xx.cok (h:Xx B w wb own ss x ps){n:Nat}{p:Post}(hp:ps[n]?=some p):p.c.ok:=(h.st n p hp).cok
theorem Xx.ans (h:Xx B w wb own ss x ps){n:Nat}{p:Post}(hp:ps[n]?=some p){m:Nat}{s':St}(hok:s'.ok p.c){e:Ending}(ha:Ans m (2*n) p.pb p.c s' p.cl own w e w'):
  e=.returned (.int .i64 m)∧Now B w wb own ss x (ps.set n {p with s:=s'}) w':=by
 obtain⟨rfl,own1,hs,hu⟩:=ha;obtain⟨h1,h2⟩:=h.called hp hu.f hs hok;exact⟨rfl,own1,h1,hu.f.calm,h2⟩
theorem Xx.Xds (h:Xx B w wb own ss x ps){n:Nat}{p:Post}(hp:ps[n]?=some p){m:Nat}{s':St}{cl':Bool}(hok:s'.ok p.c){e:Ending}(ha:Yn m (2*n+1) p.rb p.c s' cl' own w e w'):
  e=.returned (.int .i64 m)∧Now B w wb own ss x (ps.set n {p with t:=s',dl:=cl'}) w':=by
 obtain⟨rfl,own1,hs,hu⟩:=ha;obtain⟨h1,h2⟩:=h.XcM hp hu.f hs hok;exact⟨rfl,own1,h1,hu.f.calm,h2⟩
theorem Yq {α:Type}{l:List α}{n:Nat}{a b:α}(h:l[n]?=some a):(l.set n b)[n]?=some b:=by
 have hl:=(List.getElem?_eq_some_iff.1 h).1;simp[hl]
end
theorem Xcm {B:Nat}{w:World}{wb:Nat}{own:Nat→Nat}{ss:Value}{x:Lw}{ps:List Post}(h:Xx B w wb own ss x ps){n:Nat}{p:Post}(hp:ps[n]?=some p)(hev:p.even)(s:ByteArray)(raw:Int)(hs:s.size≤1048576)
  (hl:p.s.out.length+32≤2199023255552) (hl2:p.s.events.length+2≤2199023255552):
  Calls Tryz.prog 45 #[Yb p,.string s,.int .i64 raw] w fun e w'=>e=.returned (.bool true)∧Now B w wb own ss x (ps.set n (p.to (if p.cl then p.s else(Yy p.c s.data.toList p.s).2))) w':=by
 have hsl:s.data.toList.length=s.size:=by simp
 obtain⟨hev1,hev2⟩:=hev;have hcok:=h.cok hp;have hok:=(h.ok p (Xl hp)).1
 have hok':St.ok p.c (if p.cl then p.s else(Yy p.c s.data.toList p.s).2):=by
  split
  ·exact hok
  ·exact Xde hcok hok _
 obtain⟨en,hen⟩:∃en,(if p.cl then 8 else(Yy p.c s.data.toList p.s).1)=en:=⟨_,rfl⟩;obtain⟨s',hs'⟩:∃s',(if p.cl then p.s else(Yy p.c s.data.toList p.s).2)=s':=⟨_,rfl⟩;rw[hs']at hok'⊢
 -- the post's box
 have hO1:=Xg w (.cells #[.pointer (some ⟨p.pb,0,none⟩),.pointer (some ⟨p.rb,0,none⟩)] 56);have hb01:=(Below.refl w.heap.size w).alloc (Nat.le_refl _) (.cells #[.pointer (some ⟨p.pb,0,none⟩),.pointer (some ⟨p.rb,0,none⟩)] 56);have hz1:=Xk w (.cells #[.pointer (some ⟨p.pb,0,none⟩),.pointer (some ⟨p.rb,0,none⟩)] 56);have H0:=hide h;unfold Yb;clear h;go_enter Tryz.func45,Tryz.ntmps45
 go_wp2_with fail
 generalize hW1:w.alloc (.cells #[.pointer (some ⟨p.pb,0,none⟩),.pointer (some ⟨p.rb,0,none⟩)] 56)=W1 at hO1 hb01 hz1⊢;clear hW1;refine(Xac s raw W1 (by omega)).mono ?_;rintro e W2 ⟨lp,lc,rfl,hlent,hb2⟩;dsimp only
 have hz2:=hb2.size;have hO2:=(hb2.block w.heap.size (by omega)).trans hO1;have hb02:Below w.heap.size w W2:=hb01.trans (hb2.mono (by omega));have h2:=(Xa H0).later hb02;have o0:W2.cell? ⟨w.heap.size,0,none⟩=some (.pointer (some ⟨p.pb,0,none⟩)):=by rw[Lib.cell_of_heap hO2];rfl
 obtain⟨ch,q,cm,o,ev,qe,ce,oe,hS⟩:=h2.st n p hp;have hH:=XkZ hS lp lc s.data.toList hlent.src (by rw[hsl];exact hlent.cap.1) (by have:=hlent.cap;omega) hok.svm (by omega) hl2;rw[hsl,hen,hs']at hH;have HH1:=hide hH;have HF:=hide (And.intro h2 (And.intro hlent (And.intro hO2 hb02)));clear hO1 hb01 hb2 hO2 hb02 h2 hlent hS hH ch q cm o ev qe ce oe;go_wp2_with fail
 refine(Xa HH1).mono ?_;intro e W3 hans;obtain⟨h2,hlent,hO2,hb02⟩:=Xa HF;obtain⟨rfl,own3,h3,hc3,hb3⟩:=h2.ans hp hok' hans;dsimp only
 clear HH1 HF o0 hans;have hz3:=hc3.keeps.size;have hnew:∀k,w.heap.size≤k→own k=0:=(Xa H0).Xp;have hO3:=(hc3.keeps.block w.heap.size (by omega) (fun hh=>hh (hnew _ (Nat.le_refl _)))).trans hO2
 have hlb:∀a,lp=some a→W1.heap.size≤a.block∧a.block<W2.heap.size:=by
  intro a ha;rcases hlent with⟨e,_⟩|⟨g,e,_,hg,hr⟩
  ·rw[e]at ha;simp at ha
  ·rw[e]at ha;simp at ha;subst ha;exact⟨hg,hr.lt⟩
 have hlent3:=hlent.keeps hc3.keeps (fun a ha hh=>hh (hnew _ (by have:=(hlb a ha).1;omega)));have hwh:=JL hlent3 (by omega);have HWH:=hide hwh;have HF:=hide (And.intro h2 (And.intro h3 (And.intro hc3 (And.intro hb3 (And.intro hO3 (And.intro hb02 hlb))))));clear h2 h3 hc3 hb3 hO2 hO3 hb02 hlb hlent hlent3 hwh hnew;go_wp2_with fail
 refine(Xa HWH).mono ?_;rintro e W4 ⟨rfl,hk4,_⟩;dsimp only
 clear HWH;obtain⟨h2,h3,hc3,hb3,hO3,hb02,hlb⟩:=Xa HF;clear HF;have hz4:=hk4.size
 have hX:∀k,some k=lp.map (·.block)→W1.heap.size≤k∧k<W2.heap.size:=by
  intro k hk;cases lp with
  |none=>simp at hk
  |some a=>simp at hk;subst hk;exact hlb a rfl
 have hnew:∀k,w.heap.size≤k→own k=0:=(Xa H0).Xp
 have h4:Xx B W4 wb own3 ss x _:=h3.turned hk4 (fun k hk=>by
  have h1:=hX k hk;have ht:=(Xa H0).top;refine⟨hc3.zero k h1.2 (hnew k (by omega)),by omega,fun hg=> ?_⟩;have:=((Xa H0).below hg).2;omega)
 have hO4:=(hk4.block w.heap.size (by omega) (fun hh=>by have:=(hX _ hh).1;omega)).trans hO3
 -- the document's
 have hcv:=Q8 W4 s;have hbW:=bytesWorld_below W4 s;have hsW:=ZC W4 s;have hG1:=grownCap_ge W4 s.size 0 5;have hzW:=Lib.bytesWorld_size W4 5 s;generalize grownCap W4 s.size 0 5=gc at hcv hG1;generalize Lib.bytesWorld W4 5 s=W5 at hcv hbW hsW hzW;have h5:=h4.later hbW;have hp5:(ps.set n {p with s:=s'})[n]?=some {p with s:=s'}:=Yq hp;obtain⟨q,cm,o,ev,ce,oe,hT⟩:=h5.rt n _ hp5;simp only at hT;rw[hev1,hev2]at hT;have hH:=XlX hT hok (some ⟨W4.heap.size,0,none⟩) gc s.data.toList (.inr ⟨_,_,rfl,by omega,hsW⟩) (by omega) (by omega) hl hl2;rw[hsl,hen,hs']at hH;have o1:W4.cell? ⟨w.heap.size,1,none⟩=some (.pointer (some ⟨p.rb,0,none⟩)):=by rw[Lib.cell_of_heap hO4];rfl
 have HH1:=hide hH
 -- since w
 have hbel:Below B w W5:=(hb02.mono (Xa H0).top).trans (hb3.trans (Below.trans ⟨hk4.os,hk4.tape,hk4.output,hk4.size,fun k hk=>hk4.block k (by have:=(Xa H0).top;have:=hb02.size;omega) (fun hh=>by have:=(hX _ hh).1;have:=(Xa H0).top;omega)⟩ (hbW.mono (by have:=(Xa H0).top;have:=hb02.size;omega))))
 have hcalm:Calm own own3 w W5:=by
  have hc:=(Calm.of (own:=own) hb02).trans hc3;have hzw:w.heap.size≤W3.heap.size:=hc.keeps.size;refine⟨⟨hbW.os.trans (hk4.os.trans hc.keeps.os),hbW.tape.trans (hk4.tape.trans hc.keeps.tape),hbW.output.trans (hk4.output.trans hc.keeps.output),by omega,fun k hk hx=> ?_⟩,hc.zero⟩;rw[hbW.block k (by omega),hk4.block k (by omega) (fun hh=>by have:=(hX _ hh).1;omega)];exact hc.keeps.block k hk hx
 have HF:=hide (And.intro h5 (And.intro hbel hcalm));clear h2 h3 hc3 hb3 hO3 hb02 hlb hk4 hX hnew h4 hO4 hbW hsW h5 hT hH hbel hcalm q cm o ev ce oe;go_wp2_with fail
 refine(Xa HH1).mono ?_;intro e W6 hans;obtain⟨h5,hbel,hcalm⟩:=Xa HF;obtain⟨rfl,own6,h6,hc6,hb6⟩:=h5.Xds hp5 hok' hans;dsimp only
 clear HH1 HF hans hcv
 have HZ:Hid (Now B w wb own ss x (ps.set n (p.to s')) W6):=by
  refine⟨own6,?_,hcalm.trans hc6,hbel.trans hb6⟩
  have e:(ps.set n {p with s:=s'}).set n {({p with s:=s'}:Post)with t:=s',dl:=p.cl}=ps.set n (p.to s'):=by
   rw[List.set_set];unfold Post.to;rw[hev2]
  rw[← e];exact h6
 clear h5 h6 hc6 hb6 hbel hcalm hp5 o1;go_wp2
 go_ret
 exact⟨rfl,Xa HZ⟩
theorem wpList_append_run {P:Program}(w:World){ops:Array Oper}{rest:List Oper}{o:Oper}{a:Act}{Q:Exit→Act→World→Prop}(hgd:o.guard=none)(s x:Operand)(t:TypeId)
  (ho:o.op=.call {callee:=.builtin .append,args:= #[s,x],argTypes:= #[t,t]}) {v u v':Value} {w':World} (hs:a.eval s=v) (hx:a.eval x=u) (hr:(Builtin.append_ #[t,t] o.type #[v,u]).run P w=.ok v' w') (h:wpList P ops Q rest (a.put o.dst v') w'):
  wpList P ops Q (o::rest) a w:=by
 refine wpList_plain hgd fun K hK=> ?_
 unfold Oper.wp execOp;simp only[ho,resolve,invoke,builtin,Sem.run_bind,Sem.run_pure,Result.andThen_ok,List.map_toArray,List.map_cons,List.map_nil,hs,hx,hr];exact hK _ _ h
noncomputable def Q4 (w:World) (own:Nat→Nat) (t:Nat):Nat→Nat:=fun k=>
 if w.heap.size≤k then 0 else if own k=t then @ite Nat (∃ c fz,w.heap[k]?=some (.cells c 5 fz)) (Classical.propDecidable _) 0 t else t+1
theorem Xdm {w:World}{own:Nat→Nat}{t k:Nat}(h:w.heap.size≤k):Q4 w own t k=0:=by unfold Q4;rw[if_pos h]
theorem XjL {w:World}{own:Nat→Nat}{t k:Nat}{c:Array Value}{fz:Nat×Nat}(h:w.heap[k]?=some (.cells c 5 fz))(ho:own k=t):Q4 w own t k=0:=by
 have hl:=(Array.getElem?_eq_some_iff.1 h).1;unfold Q4;rw[if_neg (by omega),if_pos ho,if_pos ⟨c,fz,h⟩]
theorem Xnc {w:World}{own:Nat→Nat}{t k:Nat}{c:Array Value}{fz:Nat×Nat}(h:w.heap[k]?=some (.cells c 28 fz))(ho:own k=t):Q4 w own t k=t:=by
 have hl:=(Array.getElem?_eq_some_iff.1 h).1;unfold Q4;rw[if_neg (by omega),if_pos ho,if_neg];rintro⟨c2,fz2,h2⟩;rw[h]at h2;simp at h2
theorem Xg0 {w:World}{own:Nat→Nat}{t k:Nat}(ht:t≠0)(h:Q4 w own t k=t):own k=t∧k<w.heap.size:=by
 unfold Q4 at h;split at h
 ·exact absurd h.symm ht
 ·rename_i hl
  split at h
  ·rename_i ho
   exact⟨ho,by omega⟩
  ·omega
theorem XoW {w:World}{own:Nat→Nat}{t k:Nat}(h:Q4 w own t k=0)(hl:k<w.heap.size):own k=t:=by
 unfold Q4 at h;rw[if_neg (by omega)]at h;split at h
 ·rename_i ho
  exact ho
 ·omega
theorem YZ.way {w:World}{own:Nat→Nat}{t:Nat}{v:Value}{l:List Msg}(h:YZ w own t v l):Way w (Q4 w own t) t v l:=by
 obtain⟨p,cap,rfl,h1,h2,h3⟩:=h;refine⟨p,cap,rfl,h1,h2,?_⟩;rcases h3 with h3|⟨g,off,cur,rfl,hg,hc,hs,he⟩
 ·exact .inl h3
 ·refine .inr ⟨g,off,cur,rfl,Xnc hc hg,hc,hs,fun j m hj=> ?_⟩;obtain⟨x,hx1,hx2⟩:=he j m hj;refine⟨x,hx1,hx2.1,fun k hk=> ?_⟩;obtain⟨c,hcc⟩:=Xd hx2.1 hk;exact XjL hcc (hx2.2 k hk)
theorem Way.Xpz {w W':World}{own own':Nat→Nat}{t:Nat}{v:Value}{l:List Msg}(h:Way W' own' t v l)(ht:t≠0)(hold:∀k,k<w.heap.size→own' k=Q4 w own t k):YZ W' (XZ own w.heap.size W'.heap.size t) t v l:=by
 have hnew:∀k,k<W'.heap.size→(own' k=t∨own' k=0)→XZ own w.heap.size W'.heap.size t k=t:=by
  intro k hk ho;by_cases hl:k<w.heap.size
  ·rw[XR hl];rw[hold k hl]at ho;rcases ho with e|e
   ·exact (Xg0 ht e).1
   ·exact XoW e hl
  ·exact YJ (by omega) hk
 obtain⟨p,cap,rfl,h1,h2,h3⟩:=h;refine⟨p,cap,rfl,h1,h2,?_⟩;rcases h3 with h3|⟨g,off,cur,rfl,hg,hc,hs,he⟩
 ·exact .inl h3
 ·refine .inr ⟨g,off,cur,rfl,hnew g (Array.getElem?_eq_some_iff.1 hc).1 (.inl hg),hc,hs,fun j m hj=> ?_⟩;obtain⟨x,hx1,hx2⟩:=he j m hj;exact⟨x,hx1,hx2.1,fun k hk=>hnew k (World.ownsRow.lt hx2.1 k hk).2 (.inr (hx2.2 k hk))⟩
section
variable {w:World}{own:Nat→Nat}{i b:Nat}{c:Cfg}{s:St}{cl:Bool}{q cm o ev:Value}{ce oe:List Value}
theorem TAt.XoX (h:TAt w own i b c s cl q cm o ev ce oe){v':Value}{m:Msg}{W W':World}{own':Nat→Nat}(hb:Below w.heap.size w W)(hW:Way W' own' (tg i 1) v' (s.queue++[m]))(hk:Xb (fun k=>Q4 w own (tg i 1) k=tg i 1) W W')(hold:∀k,k<W.heap.size→own' k=Q4 w own (tg i 1) k)(hq:s.queue.length+1≤20)(hm:m.length≤32):
  TAt (W'.setCell ⟨b,11,none⟩ v') (XZ own w.heap.size W'.heap.size (tg i 1)) i b c {s with queue:=s.queue++[m]} cl v' cm o ev ce oe∧Upd i own (XZ own w.heap.size W'.heap.size (tg i 1)) w (W'.setCell ⟨b,11,none⟩ v'):=by
 have hz:=hb.size;have hz2:=hk.size;have hlt:=h.lt;have ht1:tg i 1≠0:=Xq _ _
 have hKw:Xb (fun k=>own k=tg i 1) w W':=by
  refine⟨hk.os.trans hb.os,hk.tape.trans hb.tape,hk.output.trans hb.output,by omega,fun k hl hx=> ?_⟩;rw[hk.block k (by omega) (fun e=>hx (Xg0 ht1 e).1)];exact hb.block k hl
 have hKb:Xb (· =b) W' (W'.setCell ⟨b,11,none⟩ v'):=(Xb.refl _ W').setB _ _;have hK:Xb (fun k=>own k=tg i 1∨k=b) w (W'.setCell ⟨b,11,none⟩ v'):=(hKw.mono (fun _ h=>.inl h)).trans (hKb.mono (fun _ h=>.inr h))
 have hne:∀p,p<5→p≠0→p≠1→∀k,(own k=tg i 1∨k=b)→own k≠tg i p:=by
  intro p hp h0 h1 k hk;rcases hk with hk|hk
  ·rw[hk];exact Xz (by omega) hp (.inr (by omega))
  ·rw[hk,h.ownb];exact Xz (by omega) hp (.inr (by omega))
 have hold2:∀k,k<w.heap.size→XZ own w.heap.size W'.heap.size (tg i 1) k=own k:=fun k hk=>XR hk
 have hhead:W'.heap[b]?=some (.cells (Zn c s cl q cm o ev) 137 (0,0)):=by
  rw[hKw.block b hlt (fun e=>by rw[h.ownb]at e;exact Xz (by omega) (by omega) (.inr (by omega)) e)];exact h.head
 have hq2:=hW.Xpz (own:=own) (w:=w) ht1 (fun k hk=>hold k (by omega));refine⟨⟨Xm hhead v',(hold2 b hlt).trans h.ownb,?_,h.lcm.keeps hK (hne 2 (by omega) (by omega) (by omega)) hold2,h.lo.keeps hK (hne 3 (by omega) (by omega) (by omega)) hold2,Xc h.lev hK (fun k hk hX=>hne 4 (by omega) (by omega) (by omega) k hX (h.owne k hk)),fun k hk=>(hold2 k (World.ownsRow.lt h.lev k hk).2).trans (h.owne k hk),(hold2 0 h.pos).trans h.XC,?_,h.cok,⟨h.sok.state,h.sok.vs,h.sok.va,h.sok.vr,h.sok.vm,by show(s.queue++[m]).length≤20;rw[List.length_append];exact hq,?_,h.sok.timer,h.sok.tries,h.sok.came⟩⟩,?_,hold2⟩
 ·exact hq2.Xcp hKb (fun k hk=>by rw[hk,hold2 b hlt,h.ownb];exact Xz (by omega) (by omega) (.inr (by omega))) (fun _ _ e=>e)
 ·intro k hk;rw[size_setCell]at hk;exact ZI (by omega) hk
 ·intro x hx;rcases List.mem_append.1 hx with hx|hx
  ·exact h.sok.q32 x hx
  ·simp at hx;rw[hx];exact hm
 ·exact hK.mono (fun k hk=>by rcases hk with hk|hk;exact⟨1,by omega,hk⟩;exact⟨0,by omega,by rw[hk];exact h.ownb⟩)
end
section
variable {w:World}{own:Nat→Nat}{i b:Nat}{c:Cfg}{s:St}{cl:Bool}{q cm o ev:Value}{ce oe:List Value}
theorem XkC (l:List UInt8):∀u∈Lib.byteCells l,u.oneCell'=true:=by
 intro u hu;simp only[Lib.byteCells,List.mem_map]at hu;obtain⟨y,_,rfl⟩:=hu;rfl
theorem copied {bb off cp:Nat}{l:List UInt8}(hseg:Seg w bb off l)(hll:l.length≤1048576):
  ∃x w1,(Builtin.append_ #[28,28] 28 #[.slice none 0 0,.slice (some ⟨bb,off,none⟩) l.length cp]).run Tryz.prog w=.ok x w1∧w1.ownsRow w.heap.size 5 1 x l.length (Lib.byteCells l)∧Below w.heap.size w w1∧∃xp xc,x=.slice xp l.length xc:=by
 obtain⟨i0,hi,hz0,hz1,hz2⟩:=info_parts Xe6;by_cases h0:l=[]
 ·subst h0;exact⟨.slice none 0 0,w,JX w _ _ _ i0 Tryz.underlying28 hi _ _,World.ownsRow_nil _ _ _ _,Below.refl _ _,none,0,rfl⟩
 ·obtain ⟨v',w',hr,hown,hg,_⟩:=run_append_own_at (P:=Tryz.prog) w w.heap.size 28 28 5 i0 _ 1 1 Tryz.underlying28 hi hz0 hz1 hz2 rfl (by decide) (.slice none 0 0) 0 [] (World.ownsRow_nil _ _ _ _) ⟨bb,off,none⟩ l.length cp (Lib.byteCells l) (by simp[Lib.byteCells]) hseg.news (XkC l) (by unfold maxLen;omega) (by omega) (Nat.le_refl _);rw[List.nil_append,Nat.zero_add]at hown;refine⟨v',w',hr,hown,(Below.refl _ w).grown hg (Nat.le_refl _) (fun k hk=>by simp[Value.ownBlock]at hk),?_⟩;obtain⟨xp,xc,e⟩:=Yk hown;exact⟨xp,xc,e⟩
theorem TAt.XjM (h:TAt w own i b c s cl q cm o ev ce oe){W W':World}(hb:Below w.heap.size w W)(hk:Xb (fun k=>Q4 w own (tg i 1) k=tg i 1) W W'):XN W' b c s cl q cm o ev:=by
 have hz:=hb.size;have hlt:=h.lt;unfold XN;rw[hk.block b (by omega) (fun e=>by have:=(Xg0 (Xq _ _) e).1;rw[h.ownb]at this;exact Xz (by omega) (by omega) (.inr (by omega)) this),hb.block b hlt];exact h.head
theorem Xnd (h:St.ok c s)(h2:s.state=2)(l:Msg)(hq:s.queue.length+1≤20)(hl:l.length≤32):St.ok c {s with queue:=s.queue++[l]}:=by
 refine⟨h.state,h.vs,h.va,h.vr,h.vm,h.svs,?_,h.vmw,?_,?_,h.timer,h.tim0,h.tries,h.came,fun hn=>absurd h2 hn⟩
 ·show ahead c s s.vm≤(s.queue++[l]).length
  rw[List.length_append];have:=h.svm;omega
 ·show (s.queue++[l]).length≤20
  rw[List.length_append];exact hq
 ·intro x hx;rcases List.mem_append.1 hx with hx|hx
  ·exact h.q32 x hx
  ·simp at hx;rw[hx];exact hl
theorem Xnu (h:TAt w own i b c s false q cm o ev ce oe)(hok:s.ok c)(hst:s.state=2)(bb off cp:Nat)(l:List UInt8)(hseg:Seg w bb off l)(hll:l.length≤32)(hq:s.queue.length<20)(hl:s.out.length+18≤2199023255552):
  Calls Tryz.prog 56 #[.pointer (some ⟨b,0,none⟩),.slice (some ⟨bb,off,none⟩) l.length cp] w fun e w'=>Yn 0 i b c (pump c {s with queue:=s.queue++[l]}) false own w e w':=by
 have c21:=h.c21;have c6:=h.c6;rw[hst]at c6;have c11:=h.c11;have hlt:=h.lt;obtain⟨qp,qcap,rfl⟩:=h.lq.slice;obtain⟨x,w1,hr1,hx1,hb1,xp,xc,rfl⟩:=copied (cp:=cp) hseg (by omega);have hz1:=hb1.size;have hbW:Below w.heap.size w (w1.alloc (.cells #[.slice xp l.length xc] 28)):=hb1.alloc hz1 _;have hway:Way (w1.alloc (.cells #[.slice xp l.length xc] 28)) (Q4 w own (tg i 1)) (tg i 1) (.slice qp s.queue.length qcap) s.queue:=h.lq.way.keeps (X:=fun _=>False) (Xb.of hbW) (fun _ hx=>absurd hx id) (fun _ _ _=>rfl)
 have hlst:Lst (w1.alloc (.cells #[.slice xp l.length xc] 28)) (Q4 w own (tg i 1)) 0 (.slice (some ⟨w1.heap.size,0,none⟩) 1 1) [.slice xp l.length xc] [l]:=by
  refine⟨⟨rfl,.inr ⟨w1.heap.size,1, #[.slice xp l.length xc],rfl,Nat.zero_le _,Xg w1 _,Nat.le_refl _,by unfold maxLen;omega,rfl,rfl⟩⟩,fun k hk=> ?_,fun j y mm h1 h2=> ?_,.one _⟩
  ·simp[Value.ownBlock]at hk;exact Xdm (by omega)
  ·match j,h1,h2 with
   |0,h1,h2=>
    simp at h1 h2;subst h1 h2;exact⟨Xw (World.ownsRow.alloc hx1 _) (Nat.zero_le _),fun k hk=>Xdm (World.ownsRow.lt hx1 k hk).1⟩
   |j+1,h1,h2=>simp at h1
 obtain⟨v2,W2,own2,hr2,⟨vp,vc,rfl⟩,hW2,hk2,hold2,_⟩:=Xbx 38 hway hlst (Xq _ _) (fun k hk=>Xdm (by have:=hbW.size;omega)) (by simp;omega);have hhd:=h.XjM hbW hk2;obtain⟨h5,u5⟩:=h.XoX hbW hW2 hk2 hold2 (by omega) hll;have K5:=hide (Z7 h5 (Xnd hok hst l (by omega) hll) hst (by show s.out.length+16≤_;omega));have HU:=hide u5;have d11:w1.cell? ⟨b,11,none⟩=some (.slice qp s.queue.length qcap):=(hb1.cell (p:=⟨b,11,none⟩) hlt).trans c11;have e11:W2.cell? ⟨b,11,none⟩=some (.slice qp s.queue.length qcap):=by rw[Lib.cell_of_heap hhd];rfl
 have fz2:∀j,W2.frozen? ⟨b,j,none⟩=false:=fun j=>Lib.frozen_of_heap hhd j
 have hlt2:b<W2.heap.size:=(Array.getElem?_eq_some_iff.1 hhd).1;have hI1:¬(32:Int)<((l.length:Nat):Int):=by omega
 have hI2:¬(20:Int)≤((s.queue.length:Nat):Int):=by omega
 have HR1:=hide hr1;have HR2:=hide hr2;clear h hok hst hseg hx1 hb1 hbW hway hlst hW2 hk2 hold2 hhd h5 u5 hr1 hr2 hz1;have hl2:(s.queue++[l]).length=s.queue.length+1:=by simp
 rw[hl2]at HR2 K5 HU;go_enter Tryz.func56,Tryz.ntmps56
 go_wp2_with (at_builtin;first|(refine wpList_append_run _ rfl _ _ 28 rfl rfl rfl (Xa HR1) ?_)|(refine wpList_append_run _ rfl _ _ 38 rfl rfl rfl (Xa HR2) ?_))
 clear HR1 HR2 c21 c6 c11 d11;refine(Xa K5).mono ?_;rintro e w7 ⟨rfl,own7,h7,u7⟩;have HR:=hide (And.intro h7 ((Xa HU).trans u7));clear K5 h7 u7 HU;go_wp2
 go_ret
 exact⟨rfl,_,(Xa HR).1,(Xa HR).2⟩
theorem Xiz (h:TAt w own i b c s false q cm o ev ce oe)(p:Option Addr)(n cp:Nat)(hst:s.state≠2):
  Calls Tryz.prog 56 #[.pointer (some ⟨b,0,none⟩),.slice p n cp] w fun e w'=>Yn 6 i b c s false own w e w':=by
 have c21:=h.c21;have c6:=h.c6;have c11:=h.c11;have hlt:=h.lt;obtain⟨qp,qcap,rfl⟩:=h.lq.slice;have HE:=hide (h.ans 6 (Below.refl _ w));clear h;have hsI:((s.state:Int) != 2)=true:=by simp;omega
 clear hst;go_enter Tryz.func56,Tryz.ntmps56
 go_wp2
 go_ret
 exact Xa HE
theorem Xkb (h:TAt w own i b c s false q cm o ev ce oe)(p:Option Addr)(n cp:Nat)(hst:s.state=2)(hn:32<n):
  Calls Tryz.prog 56 #[.pointer (some ⟨b,0,none⟩),.slice p n cp] w fun e w'=>Yn 1 i b c s false own w e w':=by
 have c21:=h.c21;have c6:=h.c6;have c11:=h.c11;have hlt:=h.lt;obtain⟨qp,qcap,rfl⟩:=h.lq.slice;have HE:=hide (h.ans 1 (Below.refl _ w));clear h;rw[hst]at c6;have hI:(32:Int)<((n:Nat):Int):=by omega
 clear hst hn;go_enter Tryz.func56,Tryz.ntmps56
 go_wp2
 go_ret
 exact Xa HE
theorem Xka (h:TAt w own i b c s false q cm o ev ce oe)(p:Option Addr)(n cp:Nat)(hst:s.state=2)(hn:n≤32)(hq:20≤s.queue.length):
  Calls Tryz.prog 56 #[.pointer (some ⟨b,0,none⟩),.slice p n cp] w fun e w'=>Yn 7 i b c s false own w e w':=by
 have c21:=h.c21;have c6:=h.c6;have c11:=h.c11;have hlt:=h.lt;obtain⟨qp,qcap,rfl⟩:=h.lq.slice;have HE:=hide (h.ans 7 (Below.refl _ w));clear h;rw[hst]at c6;have hI:¬(32:Int)<((n:Nat):Int):=by omega
 have hI2:(20:Int)≤((s.queue.length:Nat):Int):=by omega
 clear hst hn hq;go_enter Tryz.func56,Tryz.ntmps56
 go_wp2
 go_ret
 exact Xa HE
theorem Xma (h:TAt w own i b c s cl q cm o ev ce oe)(hok:s.ok c)(bb off cp:Nat)(l:List UInt8)(hseg:Seg w bb off l)(hl:s.out.length+18≤2199023255552):
  Calls Tryz.prog 56 #[.pointer (some ⟨b,0,none⟩),.slice (some ⟨bb,off,none⟩) l.length cp] w fun e w'=>Yn (if cl then 8 else(Qa c l s).1) i b c (if cl then s else(Qa c l s).2) cl own w e w':=by
 cases cl with
 |true=>exact Xhv h _
 |false=>
  simp only[Bool.false_eq_true,if_false];unfold Qa;by_cases hst:s.state≠2
  ·rw[if_pos hst];exact Xiz h _ _ _ hst
  ·rw[if_neg hst];have hst2:s.state=2:=by omega
   by_cases h1:32<l.length
   ·rw[if_pos h1];exact Xkb h _ _ _ hst2 h1
   ·rw[if_neg h1];by_cases h3:20≤s.queue.length
    ·rw[if_pos h3];exact Xka h _ _ _ hst2 (by omega) h3
    ·rw[if_neg h3];exact Xnu h hok hst2 bb off cp l hseg (by omega) (by omega) hl
end
theorem Lst.blk {w:World}{own:Nat→Nat}{t:Nat}{v:Value}{ents:List Value}{l:List Msg}(h:Lst w own t v ents l){k:Nat}(hk:Z4 v ents k):own k=t∧k<w.heap.size:=by
 rcases hk with hk|⟨y,hy,hk⟩
 ·exact ⟨h.rown k hk,(h.row.lt k hk).2⟩
 ·obtain ⟨j,hj⟩:=List.getElem?_of_mem hy;have hl:=h.len;have hjl:=(List.getElem?_eq_some_iff.1 hj).1;have hb:=h.each j y l[j] hj (List.getElem?_eq_getElem (by omega));exact⟨hb.2 k hk,(World.ownsRow.lt hb.1 k hk).2⟩
theorem Lst.lls {w:World}{own:Nat→Nat}{t:Nat}{v:Value}{ents:List Value}{l:List Msg}(h:Lst w own t v ents l)(hl:∀m∈l,m.length≤1048576):Lls w v ents:=by
 have hlen:=h.len;refine⟨by rw[hlen];exact h.row,fun y hy=> ?_,h.apart⟩;obtain⟨j,hj⟩:=List.getElem?_of_mem hy;have hjl:=(List.getElem?_eq_some_iff.1 hj).1;have hb:=h.each j y l[j] hj (List.getElem?_eq_getElem (by omega));exact⟨_,_,hl _ (List.getElem_mem _),hb.1⟩
def Xbk (B:Nat)(w:World)(wb:Nat)(own:Nat→Nat)(ss:Value)(x:Lw)(ps':List Post)(en:Nat)(L:List Msg)(i:Nat)(e:Ending)(w':World):Prop:=
 ∃l le own',e=.returned (.tuple #[l,.int .i64 (en:Nat)])∧Xx B w' wb own' ss x ps'∧Lst w' own' 0 l le L∧Calm own own' w w'∧Below B w w'∧(∀ k,Z4 l le k→∃q,q<5∧own k=tg i q)∧
  (∀ k,k<w.heap.size→own' k=own k∨∃q,q<5∧own k=tg i q)∧(en≠0→l=.slice none 0 0)
section
variable {B:Nat}{w w':World}{wb:Nat}{own own':Nat→Nat}{ss:Value}{x:Lw}{ps:List Post}
theorem set_self {α:Type}{l:List α}{n:Nat}{a:α}(h:l[n]?=some a):l.set n a=l:=by
 refine List.ext_getElem? fun j=> ?_
 rw[List.getElem?_set];split
 ·rename_i e
  subst e;rw[h];simp[(List.getElem?_eq_some_iff.1 h).1]
 ·rfl
theorem Xbk.none (h:Xx B w wb own ss x ps){n:Nat}{p:Post}(hp:ps[n]?=some p)(i:Nat){e:Ending}(he:e=.returned (.tuple #[.slice none 0 0,.int .i64 (8:Nat)])):Xbk B w wb own ss x (ps.set n p) 8 [] i e w:=
 ⟨_,[],own,he,by rw[set_self hp];exact h,Lst.nil _ _ _,Calm.refl _ _,Below.refl _ _,fun k hk=>by rcases hk with hk|⟨y,hy,_⟩;simp[Value.ownBlock]at hk;simp at hy,fun k _=>.inl rfl,fun _=>rfl⟩
theorem XmI (h:Xx B w wb own ss x ps){n:Nat}{p:Post}(hp:ps[n]?=some p):
  Calls Tryz.prog 40 #[.pointer (some ⟨p.pb,0,none⟩)] w fun e w'=>Xbk B w wb own ss x (ps.set n {p with s:=if p.cl then p.s else {p.s with out:=[]}}) (if p.cl then 8 else 0) (if p.cl then []else p.s.out) (2*n) e w':=by
 obtain⟨pb,rb,c,s,cl,t,dl⟩:=p;obtain⟨ch,q,cm,o,ev,qe,ce,oe,hS⟩:=h.st n _ hp;simp only at hS⊢;refine(Xol hS).mono ?_;intro e w' ha;cases cl with
 |true=>
  obtain⟨rfl,rfl⟩:=ha;exact Xbk.none h hp _ rfl
 |false=>
  simp only[Bool.false_eq_true,if_false]at ha⊢;obtain⟨rfl,h1,hL,hK⟩:=ha;have hs1:Stn w' (freed own (tg (2*n) 3)) (2*n) pb c {s with out:=[]} false:=⟨_,_,_,_,_,_,_,_,h1.Xgm rfl⟩;have hu:Qb (2*n) own (freed own (tg (2*n) 3)) w w':=Qb.freed (by omega) hK hS.ownb (Upd.refl _ _ _);obtain⟨g1,g2⟩:=h.called hp hu hs1 (Xey (h.ok _ (Xl hp)).1 _);refine⟨o,oe,_,rfl,g1,hL.freed,hu.calm,g2,fun k hk=>⟨3,by omega,(hL.blk hk).1⟩,fun k hk=> ?_,fun hh=>absurd rfl hh⟩;by_cases e:own k=tg (2*n) 3
  ·exact .inr ⟨3,by omega,e⟩
  ·exact .inl (Xy e)
theorem Xjl (h:Xx B w wb own ss x ps){n:Nat}{p:Post}(hp:ps[n]?=some p)(hl:p.s.out.length+18≤2199023255552):
  Calls Tryz.prog 42 #[.pointer (some ⟨p.pb,0,none⟩)] w fun e w'=>Xbk B w wb own ss x (ps.set n {p with s:=if p.cl then p.s else ZL p.c p.s}) (if p.cl then 8 else 0) (if p.cl then []else p.s.came) (2*n) e w':=by
 obtain⟨pb,rb,c,s,cl,t,dl⟩:=p;obtain⟨ch,q,cm,o,ev,qe,ce,oe,hS⟩:=h.st n _ hp;simp only at hS hl⊢;refine(XlT hS hl).mono ?_;intro e w' ha;cases cl with
 |true=>
  obtain⟨rfl,rfl⟩:=ha;exact Xbk.none h hp _ rfl
 |false=>
  simp only[Bool.false_eq_true,if_false]at ha⊢;obtain⟨rfl,own1,h1,hL,hu⟩:=ha;obtain⟨g1,g2⟩:=h.called hp hu h1 (Xfn (h.ok _ (Xl hp)).1);refine⟨cm,ce,own1,rfl,g1,hL,hu.calm,g2,fun k hk=>⟨2,by omega,(hS.lcm.blk hk).1⟩,fun k hk=> ?_,fun hh=>absurd rfl hh⟩;rcases hu.same k hk with e|⟨e,_⟩
  ·exact .inl e
  ·exact .inr e
theorem TAt.Xgm {i b:Nat}{c:Cfg}{s:St}{cl:Bool}{q cm ev:Value}{ce oe:List Value}(h:TAt w own i b c s cl q cm (.slice none 0 0) ev ce oe)(h2:s.out=[]):TAt w (freed own (tg i 3)) i b c s cl q cm (.slice none 0 0) ev ce oe:=by
 have hn:∀p,p<5→p≠3→tg i p≠tg i 3:=fun p hp h=>Xz hp (by omega) (.inr h)
 refine⟨h.head,(Xy (by rw[h.ownb];exact hn 0 (by omega) (by omega))).trans h.ownb,h.lq.Jj (Xb.refl (fun _=>False) w) (fun _ hx=>absurd hx id) (fun k _ e=>Xy (by rw[e];exact hn 1 (by omega) (by omega))),h.lcm.Y0 (hn 2 (by omega) (by omega)),?_,h.lev,fun k hk=>(Xy (by rw[h.owne k hk];exact hn 4 (by omega) (by omega))).trans (h.owne k hk),(Xy (by rw[h.XC];exact fun e=>Xq _ _ e.symm)).trans h.XC,fun k hk=>(Xy (by rw[h.Xp k hk];exact fun e=>Xq _ _ e.symm)).trans (h.Xp k hk),h.cok,h.sok⟩;have:=h.lo;rw[h2]at this⊢;exact this.XbK _
theorem XkV (h:Xx B w wb own ss x ps){n:Nat}{p:Post}(hp:ps[n]?=some p):
  Calls Tryz.prog 41 #[.pointer (some ⟨p.rb,0,none⟩)] w fun e w'=>Xbk B w wb own ss x (ps.set n {p with t:=if p.dl then p.t else {p.t with out:=[]}}) (if p.dl then 8 else 0) (if p.dl then []else p.t.out) (2*n+1) e w':=by
 obtain⟨pb,rb,c,s,cl,t,dl⟩:=p;obtain⟨q,cm,o,ev,ce,oe,hS⟩:=h.rt n _ hp;simp only at hS⊢;refine(Xiy hS).mono ?_;intro e w' ha;cases dl with
 |true=>
  obtain⟨rfl,rfl⟩:=ha;exact Xbk.none h hp _ rfl
 |false=>
  simp only[Bool.false_eq_true,if_false]at ha⊢;obtain⟨rfl,h1,hL,hK⟩:=ha;have hs1:Ttn w' (freed own (tg (2*n+1) 3)) (2*n+1) rb c {t with out:=[]} false:=⟨_,_,_,_,_,_,h1.Xgm rfl⟩;have hu:Qb (2*n+1) own (freed own (tg (2*n+1) 3)) w w':=Qb.freed (by omega) hK hS.ownb (Upd.refl _ _ _);obtain⟨g1,g2⟩:=h.XcM hp hu hs1 (Xey (h.ok _ (Xl hp)).2 _);refine⟨o,oe,_,rfl,g1,hL.freed,hu.calm,g2,fun k hk=>⟨3,by omega,(hL.blk hk).1⟩,fun k hk=> ?_,fun hh=>absurd rfl hh⟩;by_cases e:own k=tg (2*n+1) 3
  ·exact .inr ⟨3,by omega,e⟩
  ·exact .inl (Xy e)
theorem XhN (h:Xx B w wb own ss x ps){n:Nat}{p:Post}(hp:ps[n]?=some p)(hl:p.t.out.length+18≤2199023255552):
  Calls Tryz.prog 43 #[.pointer (some ⟨p.rb,0,none⟩)] w fun e w'=>Xbk B w wb own ss x (ps.set n {p with t:=if p.dl then p.t else ZL p.c p.t}) (if p.dl then 8 else 0) (if p.dl then []else p.t.came) (2*n+1) e w':=by
 obtain⟨pb,rb,c,s,cl,t,dl⟩:=p;obtain⟨q,cm,o,ev,ce,oe,hS⟩:=h.rt n _ hp;simp only at hS hl⊢;refine(Xhw hS hl).mono ?_;intro e w' ha;cases dl with
 |true=>
  obtain⟨rfl,rfl⟩:=ha;exact Xbk.none h hp _ rfl
 |false=>
  simp only[Bool.false_eq_true,if_false]at ha⊢;obtain⟨rfl,own1,h1,hL,hu⟩:=ha;obtain⟨g1,g2⟩:=h.XcM hp hu h1 (Xfn (h.ok _ (Xl hp)).2);refine⟨cm,ce,own1,rfl,g1,hL,hu.calm,g2,fun k hk=>⟨2,by omega,(hS.lcm.blk hk).1⟩,fun k hk=> ?_,fun hh=>absurd rfl hh⟩;rcases hu.same k hk with e|⟨e,_⟩
  ·exact .inl e
  ·exact .inr e
structure Two (B:Nat)(w:World)(wb:Nat)(own:Nat→Nat)(ss:Value)(x:Lw)(ps':List Post)(L:List Msg)(l:Value)(le:List Value)(m:Value)(me:List Value):Prop where
 gw:Xx B w wb own ss x ps'
 l1:Lst w own 0 l le L
 l2:Lst w own 0 m me L
 apart:∀k,Z4 l le k→B≤k∧¬Je wb ss x k∧¬Z4 m me k
 apart2:∀k,Z4 m me k→¬Je wb ss x k
theorem Two.later {L:List Msg}{l m:Value}{le me:List Value}(h:Two B w wb own ss x ps L l le m me)(hb:Below w.heap.size w w'):Two B w' wb own ss x ps L l le m me:=
 ⟨h.gw.later hb,(Calm.of hb).lst h.l1,(Calm.of hb).lst h.l2,h.apart,h.apart2⟩
theorem Xmd {w1 w2:World}{own1 own2:Nat→Nat}{ps1 ps2:List Post}{L:List Msg}{l m:Value}{le me:List Value}{n:Nat}(h:Xx B w wb own ss x ps)(h1:Xx B w1 wb own1 ss x ps1)(hl1:Lst w1 own1 0 l le L)(ht1:∀k,Z4 l le k→∃q,q<5∧own k=tg (2*n) q)
  (h2:Xx B w2 wb own2 ss x ps2) (hl2:Lst w2 own2 0 m me L) (hc2:Calm own1 own2 w1 w2) (ht2:∀k,Z4 m me k→∃q,q<5∧own1 k=tg (2*n+1) q):Two B w2 wb own2 ss x ps2 L l le m me:=by
 refine⟨h2,hc2.lst hl1,hl2,fun k hk=> ?_,fun k hk=> ?_⟩
 ·obtain ⟨q,hq,e⟩:=ht1 k hk;have hne:own k≠0:=by rw[e];exact Xq _ _
  refine⟨h.lo k hne,h.free k hne,fun hm=> ?_⟩;obtain⟨q2,hq2,e2⟩:=ht2 k hm;exact Xq _ _ (e2.symm.trans (hl1.blk hk).1)
 ·obtain ⟨q2,hq2,e2⟩:=ht2 k hk;have hne:own1 k≠0:=by rw[e2];exact Xq _ _
  exact h1.free k hne
structure Grew (x x':Lw)(a b c d:Nat):Prop where
 hs:x'.hs=x.hs
 es:x'.es=x.es
 eb:x'.b.eb.length=x.b.eb.length+4*a
 ef:x'.b.ef.length=x.b.ef.length+4*b
 el:x'.b.el.length=x.b.el.length+4*c
 ei:x'.b.ei.length=x.b.ei.length+4*d
def Kept (B:Nat)(w:World)(wb:Nat)(own:Nat→Nat)(ss:Value)(x:Lw)(ps':List Post)(L:List Msg)(m:Value)(me:List Value)(w':World):Prop:=
 ∃own' x',Xx B w' wb own' ss x' ps'∧Grew x x' L.length 0 1 0∧Lst w' own' 0 m me L∧Below B w w'∧Xb (fun k=>own k≠0∨Je wb ss x k) w w'∧∀k,k<w.heap.size→own k=0→own' k=0
theorem Two.kept {w0:World}{XC:Nat→Nat}{L:List Msg}{l m:Value}{le me:List Value}(h:Two B w wb own ss x ps L l le m me)(hb:Below B w0 w)(hc:Calm XC own w0 w)(hl0:∀k,Z4 l le k→XC k≠0)(hLm:∀m∈L,m.length≤1048576)(hN:x.b.eb.length+4*L.length≤4000000000000)(hF:x.b.el.length≤1099511627776)(hT:L.length≤1099511627000):
  Calls Tryz.prog 44 #[.pointer (some ⟨wb,2,none⟩),l] w fun e w'=>e=.returned (.tuple #[])∧Kept B w0 wb XC ss x ps L m me w':=by
 have hlen:=h.l1.len;refine(Xfz h.gw.lw.bk (h.l1.lls hLm) (fun k hk hg=>(h.apart k (.inl hk)).2.1 (.inl (.inr (.inl hg)))) (fun y hy k hk hg=>(h.apart k (.inr ⟨y,hy,hk⟩)).2.1 (.inl (.inr (.inl hg)))) (by omega) hF (by omega)).mono ?_;rintro e w' ⟨rfl,b',k1,k2,k3,k4,k5,k6,k7⟩;obtain⟨g1,g2⟩:=h.gw.booked k1 k6 k7 (fun k hk=>⟨(h.l1.blk hk).1,(h.apart k hk).1,(h.apart k hk).2.1⟩)
 have hnot:∀k,Z4 m me k→¬(k=wb∨x.b.blk k∨Z4 l le k):=by
  rintro k hk (rfl|hg|hg)
  ·exact h.apart2 _ hk (.inl (.inl rfl))
  ·exact h.apart2 k hk (.inl (.inr (.inl hg)))
  ·exact (h.apart k hg).2.2 hk
 refine⟨rfl,own,{x with b:=b'},g1,⟨rfl,rfl,by rw[← hlen];exact k2,by show b'.ef.length=_;rw[k4];omega,by show b'.el.length=_;omega,by show b'.ei.length=_;rw[k5];omega⟩,?_,hb.trans g2,⟨k6.os.trans hc.keeps.os,k6.tape.trans hc.keeps.tape,k6.output.trans hc.keeps.output,Nat.le_trans hc.keeps.size k6.size,fun k hk hx=> ?_⟩,hc.zero⟩
 ·exact ⟨Xc h.l2.row k6 (fun k hk=>hnot k (.inl hk)),h.l2.rown,fun j y mm h1 h2=>⟨Xc (h.l2.each j y mm h1 h2).1 k6 (fun k hk=>hnot k (.inr ⟨y,Xl h1,hk⟩)),(h.l2.each j y mm h1 h2).2⟩,h.l2.apart⟩
 ·rw[k6.block k (Nat.lt_of_lt_of_le hk hc.keeps.size) ?_]
  ·exact hc.keeps.block k hk (fun e=>hx (.inl e))
  ·rintro (rfl|hg|hg)
   ·exact hx (.inr (.inl (.inl rfl)))
   ·exact hx (.inr (.inl (.inr (.inl hg))))
   ·exact hx (.inl (hl0 k hg))
end
theorem Xfa (a:Option Addr)(n c:Nat)(w:World):(binOp .eql 38 (.slice a n c) (.slice none 0 0)).run Tryz.prog w=.ok (.bool a.isNone) w:=
 Lib.run_eql_slice_nil w 38 28 a n c 0 0 Tryz.underlying38
theorem BytesAt.conv {w:World}{own:Nat→Nat}{t:Nat}{v:Value}{m:Msg}(h:BytesAt w own t v m):∃p c,v=.slice p m.length c∧∀N,(convert 28 9 (.slice p m.length c)).run Tryz.prog (w.drewN N)=.ok (.string ⟨m.toArray⟩) (w.drewN N):=by
 obtain⟨p,c,rfl,_⟩:=Xf h.1;exact⟨p,c,rfl,fun N=>XaA (f:=(0,m)) h.1 N⟩
theorem Xfb {B:Nat}{w:World}{wb:Nat}{own:Nat→Nat}{ss:Value}{x:Lw}{ps:List Post}(h:Xx B w wb own ss x ps){n:Nat}{p:Post}(hp:ps[n]?=some p)(hev:p.even)
  (hLm:∀m∈(if p.cl then []else p.s.out),m.length≤1048576) (hN:x.b.eb.length+4*(if p.cl then []else p.s.out).length≤4000000000000) (hF:x.b.el.length≤1099511627776) (hT:(if p.cl then []else p.s.out).length≤1099511627000):
  Calls Tryz.prog 19 #[.pointer (some ⟨wb,0,none⟩),Yb p,.bool true] w fun e w'=>∃m me,e=.returned (.tuple #[m,.bool true])∧Kept B w wb own ss x (ps.set n (p.to (if p.cl then p.s else {p.s with out:=[]}))) (if p.cl then []else p.s.out) m me w':=by
 obtain⟨hev1,hev2⟩:=hev;obtain⟨en,hen⟩:∃en,(if p.cl then 8 else 0)=en:=⟨_,rfl⟩;obtain⟨s',hs'⟩:∃s',(if p.cl then p.s else {p.s with out:=[]})=s':=⟨_,rfl⟩;obtain⟨L,hL⟩:∃L,(if p.cl then []else p.s.out)=L:=⟨_,rfl⟩;rw[hL]at hLm hN hT;rw[hs',hL];have hO1:=Xg w (.cells #[.pointer (some ⟨p.pb,0,none⟩),.pointer (some ⟨p.rb,0,none⟩)] 56);have hb01:=(Below.refl w.heap.size w).alloc (Nat.le_refl _) (.cells #[.pointer (some ⟨p.pb,0,none⟩),.pointer (some ⟨p.rb,0,none⟩)] 56);have hz1:=Xk w (.cells #[.pointer (some ⟨p.pb,0,none⟩),.pointer (some ⟨p.rb,0,none⟩)] 56);have HO1:=hide hO1;have c0:(w.alloc (.cells #[.pointer (some ⟨p.pb,0,none⟩),.pointer (some ⟨p.rb,0,none⟩)] 56)).cell? ⟨w.heap.size,0,none⟩=some (.pointer (some ⟨p.pb,0,none⟩)):=by rw[Lib.cell_of_heap hO1];rfl
 have h1:=h.later hb01;have k1:=XmI h1 hp;rw[hen,hs',hL]at k1;have K1:=hide k1;have H0:=hide h;have H1:=hide h1;have HB1:=hide hb01;unfold Yb;clear h h1 k1 hO1 hb01;go_enter Tryz.func19,Tryz.ntmps19
 generalize hW1:w.alloc (.cells #[.pointer (some ⟨p.pb,0,none⟩),.pointer (some ⟨p.rb,0,none⟩)] 56)=W1 at*;go_wp2_with fail
 clear hW1;refine(Xa K1).mono ?_;intro e W2 hg;obtain⟨l,le,own1,rfl,a1,a2,a3,a4,a5,a6,a7⟩:=hg;dsimp only
 have hz2:=a3.keeps.size;have hnew:∀k,w.heap.size≤k→own k=0:=(Xa H0).Xp;have hO2:=(a3.keeps.block w.heap.size (by omega) (fun hh=>hh (hnew _ (Nat.le_refl _)))).trans (Xa HO1);have c1:W2.cell? ⟨w.heap.size,1,none⟩=some (.pointer (some ⟨p.rb,0,none⟩)):=by rw[Lib.cell_of_heap hO2];rfl
 have hp2:(ps.set n {p with s:=s'})[n]?=some {p with s:=s'}:=Yq hp;have k2:=XkV a1 hp2;simp only at k2;rw[hev1,hev2,hen,hs',hL]at k2;have K2:=hide k2;have HA:=hide (And.intro a1 (And.intro a2 (And.intro a3 (And.intro a4 (And.intro a5 a6)))));have hnil:=a7;clear a1 a2 a3 a4 a5 a6 a7 hO2 k2 c0 K1 HO1 hnew;go_wp2_with fail
 refine(Xa K2).mono ?_;intro e W3 hg;obtain⟨m,me,own2,rfl,b1,b2,b3,b4,b5,b6,b7⟩:=hg;dsimp only
 obtain⟨a1,a2,a3,a4,a5,a6⟩:=Xa HA
 have htwo:Two B W3 wb own2 ss x (ps.set n (p.to s')) L l le m me:=by
  have q:=Xmd (Xa H1) a1 a2 a5 b1 b2 b3 b5;rw[List.set_set]at q;unfold Post.to;rw[hev2];exact q
 have HT:=hide htwo;have HBL:Hid (Below B w W3):=(Below.mono (Xa HB1) (Xa H0).top).trans (a4.trans b4);obtain⟨lp,lc,hlv,hlc1,hlc2⟩:=htwo.l1.slice;obtain⟨mp,mc,hmv,hmc1,hmc2⟩:=htwo.l2.slice;subst hlv hmv;have HK:=hide (fun(V:World) (hV:Below W3.heap.size W3 V)=>(htwo.later hV).kept (w0:=w) (XC:=own) ((Xa HBL).trans (hV.mono htwo.gw.top)) ((((Calm.of (own:=own) (Xa HB1)).trans a3).trans b3).trans (Calm.of hV)) (fun k hk=>by obtain⟨q,hq,e⟩:=a5 k hk;rw[e];exact Xq _ _) hLm hN hF hT);have hq:=Xfa lp L.length lc
 have hen2:lp≠none→en=0:=by
  intro hne;refine Classical.byContradiction fun he=>hne ?_
  have:=hnil he;simp at this;exact this.1
 have hlg:0<L.length→∃g,lp=some ⟨g,0,none⟩:=by
  intro h0;obtain⟨pp,cc,e,hh⟩:=Xf htwo.l1.row;simp at e;obtain⟨g,hg⟩:=hh h0;exact⟨g,e.1.trans hg⟩
 have hmg:0<L.length→∃g,mp=some ⟨g,0,none⟩:=by
  intro h0;obtain⟨pp,cc,e,hh⟩:=Xf htwo.l2.row;simp at e;obtain⟨g,hg⟩:=hh h0;exact⟨g,e.1.trans hg⟩
 have hcell:∀(V:World) (hV:Below W3.heap.size W3 V) (k:Nat) (hk:k<L.length),∃g g2 p1 q1 p2 q2,lp=some ⟨g,0,none⟩∧mp=some ⟨g2,0,none⟩∧V.cell? ⟨g,k,none⟩=some (.slice p1 L[k].length q1)∧V.cell? ⟨g2,k,none⟩=some (.slice p2 L[k].length q2)∧
   (∀ N,(convert 28 9 (.slice p1 L[k].length q1)).run Tryz.prog (V.drewN N)=.ok (.string ⟨L[k].toArray⟩) (V.drewN N))∧(∀ N,(convert 28 9 (.slice p2 L[k].length q2)).run Tryz.prog (V.drewN N)=.ok (.string ⟨L[k].toArray⟩) (V.drewN N)):=by
  intro V hV k hk;have hT2:=htwo.later hV;obtain⟨g,rfl⟩:=hlg (by omega);obtain⟨g2,rfl⟩:=hmg (by omega);have e1:=hT2.l1.len;have e2:=hT2.l2.len;have d1:=World.ownsRow.cells hT2.l1.row (g:=g) rfl k _ (List.getElem?_eq_getElem (show k<le.length by omega));have d2:=World.ownsRow.cells hT2.l2.row (g:=g2) rfl k _ (List.getElem?_eq_getElem (show k<me.length by omega));rw[Go.WideShapes.add_plain,Nat.zero_add]at d1 d2;have f1:=hT2.l1.each k _ L[k] (List.getElem?_eq_getElem (show k<le.length by omega)) (List.getElem?_eq_getElem hk);have f2:=hT2.l2.each k _ L[k] (List.getElem?_eq_getElem (show k<me.length by omega)) (List.getElem?_eq_getElem hk);obtain⟨p1,q1,e3,hv1⟩:=f1.conv;obtain⟨p2,q2,e4,hv2⟩:=f2.conv;rw[e3]at d1;rw[e4]at d2;exact⟨g,g2,p1,q1,p2,q2,rfl,rfl,d1,d2,hv1,hv2⟩
 have HC:=hide hcell;have hbd:L.length≤1099511627000:=hT;clear hcell htwo a1 a2 a3 a4 a5 a6 b1 b2 b3 b4 b5 b6 b7 HA K2 c1 hp2 hnil hLm hN hF hT HB1 H0 H1 HBL HT hlg hmg;have hq3:=hq W3
 have hgd:((lp.isNone||((en:Int)==0))=true):=by
  cases lp with
  |none=>rfl
  |some a=>rw[hen2 (by simp)];rfl
 clear hq;cases hlp:lp.isNone
 all_goals
  rw[hlp]at hq3 hgd
  try (have hen0:en=0:=(by simpa using hgd);subst hen0)
  clear hgd hen2;go_wp2
  go_loopw [12,13] (fun a b wr=>a=.bool true∧(∃ k:Nat,k≤L.length∧b=.int .i64 k)∧Below W3.heap.size W3 wr) (fun _ b _=>L.length -(intOf b).toNat)
  case atStart=>exact⟨rfl,⟨0,Nat.zero_le _,rfl⟩,Below.refl _ _⟩
  case round=>
   obtain⟨rfl,⟨k,hk,rfl⟩,hwr⟩:=hrel;by_cases hlt:k<L.length
   ·obtain ⟨g,g2,p1,q1,p2,q2,rfl,rfl,a0,b0,v1,v2⟩:=Xa HC wr hwr k hlt;have HW:=hide hwr;clear hwr HK HC;generalize L[k]=y at*;have hltI:(k:Int)<(L.length:Int):=by omega
    go_wp2_with fail
    go_quiet (fail)
    go_wp2
    go_roundw
    case rel=>exact⟨rfl,⟨k+1,hlt,by go_num⟩,below_drewN (Xa HW) _⟩
    case measure=>simp[intOf];omega
   ·have hkt:k=L.length:=by omega
    subst hkt;have KK:=hide (Xa HK wr hwr);clear HK HC hwr;go_wp2_with fail
    refine(Xa KK).mono ?_;rintro e w3 ⟨rfl,hL3⟩;have HL:=hide hL3;clear hL3 KK;go_wp2
    go_ret2
    exact⟨_,_,rfl,Xa HL⟩
theorem Xh0 {B:Nat}{w:World}{wb:Nat}{own:Nat→Nat}{ss:Value}{x:Lw}{ps:List Post}(h:Xx B w wb own ss x ps){n:Nat}{p:Post}(hp:ps[n]?=some p)(hev:p.even)(hl:p.s.out.length+18≤2199023255552)
  (hLm:∀m∈(if p.cl then []else p.s.came),m.length≤1048576) (hN:x.b.eb.length+4*(if p.cl then []else p.s.came).length≤4000000000000) (hF:x.b.el.length≤1099511627776) (hT:(if p.cl then []else p.s.came).length≤1099511627000):
  Calls Tryz.prog 19 #[.pointer (some ⟨wb,0,none⟩),Yb p,.bool false] w fun e w'=>∃m me,e=.returned (.tuple #[m,.bool true])∧Kept B w wb own ss x (ps.set n (p.to (if p.cl then p.s else ZL p.c p.s))) (if p.cl then []else p.s.came) m me w':=by
 obtain⟨hev1,hev2⟩:=hev;obtain⟨en,hen⟩:∃en,(if p.cl then 8 else 0)=en:=⟨_,rfl⟩;obtain⟨s',hs'⟩:∃s',(if p.cl then p.s else ZL p.c p.s)=s':=⟨_,rfl⟩;obtain⟨L,hL⟩:∃L,(if p.cl then []else p.s.came)=L:=⟨_,rfl⟩;rw[hL]at hLm hN hT;rw[hs',hL];have hO1:=Xg w (.cells #[.pointer (some ⟨p.pb,0,none⟩),.pointer (some ⟨p.rb,0,none⟩)] 56);have hb01:=(Below.refl w.heap.size w).alloc (Nat.le_refl _) (.cells #[.pointer (some ⟨p.pb,0,none⟩),.pointer (some ⟨p.rb,0,none⟩)] 56);have hz1:=Xk w (.cells #[.pointer (some ⟨p.pb,0,none⟩),.pointer (some ⟨p.rb,0,none⟩)] 56);have HO1:=hide hO1;have c0:(w.alloc (.cells #[.pointer (some ⟨p.pb,0,none⟩),.pointer (some ⟨p.rb,0,none⟩)] 56)).cell? ⟨w.heap.size,0,none⟩=some (.pointer (some ⟨p.pb,0,none⟩)):=by rw[Lib.cell_of_heap hO1];rfl
 have h1:=h.later hb01;have k1:=Xjl h1 hp hl;rw[hen,hs',hL]at k1;have K1:=hide k1;have H0:=hide h;have H1:=hide h1;have HB1:=hide hb01;unfold Yb;clear h h1 k1 hO1 hb01;go_enter Tryz.func19,Tryz.ntmps19
 generalize hW1:w.alloc (.cells #[.pointer (some ⟨p.pb,0,none⟩),.pointer (some ⟨p.rb,0,none⟩)] 56)=W1 at*;go_wp2_with fail
 clear hW1;refine(Xa K1).mono ?_;intro e W2 hg;obtain⟨l,le,own1,rfl,a1,a2,a3,a4,a5,a6,a7⟩:=hg;dsimp only
 have hz2:=a3.keeps.size;have hnew:∀k,w.heap.size≤k→own k=0:=(Xa H0).Xp;have hO2:=(a3.keeps.block w.heap.size (by omega) (fun hh=>hh (hnew _ (Nat.le_refl _)))).trans (Xa HO1);have c1:W2.cell? ⟨w.heap.size,1,none⟩=some (.pointer (some ⟨p.rb,0,none⟩)):=by rw[Lib.cell_of_heap hO2];rfl
 have hp2:(ps.set n {p with s:=s'})[n]?=some {p with s:=s'}:=Yq hp;have k2:=XhN a1 hp2 (by rw[hev1];exact hl);simp only at k2;rw[hev1,hev2,hen,hs',hL]at k2;have K2:=hide k2;have HA:=hide (And.intro a1 (And.intro a2 (And.intro a3 (And.intro a4 (And.intro a5 a6)))));have hnil:=a7;clear a1 a2 a3 a4 a5 a6 a7 hO2 k2 c0 K1 HO1 hnew;go_wp2_with fail
 refine(Xa K2).mono ?_;intro e W3 hg;obtain⟨m,me,own2,rfl,b1,b2,b3,b4,b5,b6,b7⟩:=hg;dsimp only
 obtain⟨a1,a2,a3,a4,a5,a6⟩:=Xa HA
 have htwo:Two B W3 wb own2 ss x (ps.set n (p.to s')) L l le m me:=by
  have q:=Xmd (Xa H1) a1 a2 a5 b1 b2 b3 b5;rw[List.set_set]at q;unfold Post.to;rw[hev2];exact q
 have HT:=hide htwo;have HBL:Hid (Below B w W3):=(Below.mono (Xa HB1) (Xa H0).top).trans (a4.trans b4);obtain⟨lp,lc,hlv,hlc1,hlc2⟩:=htwo.l1.slice;obtain⟨mp,mc,hmv,hmc1,hmc2⟩:=htwo.l2.slice;subst hlv hmv;have HK:=hide (fun(V:World) (hV:Below W3.heap.size W3 V)=>(htwo.later hV).kept (w0:=w) (XC:=own) ((Xa HBL).trans (hV.mono htwo.gw.top)) ((((Calm.of (own:=own) (Xa HB1)).trans a3).trans b3).trans (Calm.of hV)) (fun k hk=>by obtain⟨q,hq,e⟩:=a5 k hk;rw[e];exact Xq _ _) hLm hN hF hT);have hq:=Xfa lp L.length lc
 have hen2:lp≠none→en=0:=by
  intro hne;refine Classical.byContradiction fun he=>hne ?_
  have:=hnil he;simp at this;exact this.1
 have hlg:0<L.length→∃g,lp=some ⟨g,0,none⟩:=by
  intro h0;obtain⟨pp,cc,e,hh⟩:=Xf htwo.l1.row;simp at e;obtain⟨g,hg⟩:=hh h0;exact⟨g,e.1.trans hg⟩
 have hmg:0<L.length→∃g,mp=some ⟨g,0,none⟩:=by
  intro h0;obtain⟨pp,cc,e,hh⟩:=Xf htwo.l2.row;simp at e;obtain⟨g,hg⟩:=hh h0;exact⟨g,e.1.trans hg⟩
 have hcell:∀(V:World) (hV:Below W3.heap.size W3 V) (k:Nat) (hk:k<L.length),∃g g2 p1 q1 p2 q2,lp=some ⟨g,0,none⟩∧mp=some ⟨g2,0,none⟩∧V.cell? ⟨g,k,none⟩=some (.slice p1 L[k].length q1)∧V.cell? ⟨g2,k,none⟩=some (.slice p2 L[k].length q2)∧
   (∀ N,(convert 28 9 (.slice p1 L[k].length q1)).run Tryz.prog (V.drewN N)=.ok (.string ⟨L[k].toArray⟩) (V.drewN N))∧(∀ N,(convert 28 9 (.slice p2 L[k].length q2)).run Tryz.prog (V.drewN N)=.ok (.string ⟨L[k].toArray⟩) (V.drewN N)):=by
  intro V hV k hk;have hT2:=htwo.later hV;obtain⟨g,rfl⟩:=hlg (by omega);obtain⟨g2,rfl⟩:=hmg (by omega);have e1:=hT2.l1.len;have e2:=hT2.l2.len;have d1:=World.ownsRow.cells hT2.l1.row (g:=g) rfl k _ (List.getElem?_eq_getElem (show k<le.length by omega));have d2:=World.ownsRow.cells hT2.l2.row (g:=g2) rfl k _ (List.getElem?_eq_getElem (show k<me.length by omega));rw[Go.WideShapes.add_plain,Nat.zero_add]at d1 d2;have f1:=hT2.l1.each k _ L[k] (List.getElem?_eq_getElem (show k<le.length by omega)) (List.getElem?_eq_getElem hk);have f2:=hT2.l2.each k _ L[k] (List.getElem?_eq_getElem (show k<me.length by omega)) (List.getElem?_eq_getElem hk);obtain⟨p1,q1,e3,hv1⟩:=f1.conv;obtain⟨p2,q2,e4,hv2⟩:=f2.conv;rw[e3]at d1;rw[e4]at d2;exact⟨g,g2,p1,q1,p2,q2,rfl,rfl,d1,d2,hv1,hv2⟩
 have HC:=hide hcell;have hbd:L.length≤1099511627000:=hT;clear hcell htwo a1 a2 a3 a4 a5 a6 b1 b2 b3 b4 b5 b6 b7 HA K2 c1 hp2 hnil hLm hN hF hT HB1 H0 H1 HBL HT hlg hmg;have hq3:=hq W3
 have hgd:((lp.isNone||((en:Int)==0))=true):=by
  cases lp with
  |none=>rfl
  |some a=>rw[hen2 (by simp)];rfl
 clear hq;cases hlp:lp.isNone
 all_goals
  rw[hlp]at hq3 hgd
  try (have hen0:en=0:=(by simpa using hgd);subst hen0)
  clear hgd hen2;go_wp2
  go_loopw [12,13] (fun a b wr=>a=.bool true∧(∃ k:Nat,k≤L.length∧b=.int .i64 k)∧Below W3.heap.size W3 wr) (fun _ b _=>L.length -(intOf b).toNat)
  case atStart=>exact⟨rfl,⟨0,Nat.zero_le _,rfl⟩,Below.refl _ _⟩
  case round=>
   obtain⟨rfl,⟨k,hk,rfl⟩,hwr⟩:=hrel;by_cases hlt:k<L.length
   ·obtain ⟨g,g2,p1,q1,p2,q2,rfl,rfl,a0,b0,v1,v2⟩:=Xa HC wr hwr k hlt;have HW:=hide hwr;clear hwr HK HC;generalize L[k]=y at*;have hltI:(k:Int)<(L.length:Int):=by omega
    go_wp2_with fail
    go_quiet (fail)
    go_wp2
    go_roundw
    case rel=>exact⟨rfl,⟨k+1,hlt,by go_num⟩,below_drewN (Xa HW) _⟩
    case measure=>simp[intOf];omega
   ·have hkt:k=L.length:=by omega
    subst hkt;have KK:=hide (Xa HK wr hwr);clear HK HC hwr;go_wp2_with fail
    refine(Xa KK).mono ?_;rintro e w3 ⟨rfl,hL3⟩;have HL:=hide hL3;clear hL3 KK;go_wp2
    go_ret2
    exact⟨_,_,rfl,Xa HL⟩
end Go.Proofs.YtkalonhalhdlaaaGreatDoor
