import Derived.Test.YtkalonhalhdlaaaGreatDoorVStep5
import Derived.Test.YtkalonhalhdlaaaGreatDoorG39
set_option maxHeartbeats 4000000
set_option maxRecDepth 100000
namespace Go.Proofs.YtkalonhalhdlaaaGreatDoor
open Go.RowKit
structure OpL (w:World)(n:Nat)(o:OpV):Prop where
 a: -9223372036854775808≤o.a∧o.a≤9223372036854775807
 b: -9223372036854775808≤o.b∧o.b≤9223372036854775807
 d: -9223372036854775808≤o.d∧o.d≤9223372036854775807
 s:o.s.size≤n
 lv:∃(lp:Option Addr) (lc:Nat) (ls:List ByteArray),o.lv=.slice lp ls.length lc∧Qo w lp ls∧ls.length≤n∧∀t∈ls,t.size≤1048576
theorem OpL.below {w w':World}{n B:Nat}{o:OpV}(h:OpL w n o)(hb:Below B w w')(hB:w.heap.size≤B):OpL w' n o:=by
 obtain⟨lp,lc,ls,h1,h2,h3⟩:=h.lv;exact⟨h.a,h.b,h.d,h.s,lp,lc,ls,h1,h2.below hb hB,h3⟩
theorem J6.line {w:World}{N:Nat}{o:OpV}(h:J6 w N o)(hN:N≤1048576):OpL w N o:=by
 obtain⟨h1,h2,h3,h4,_⟩:=h.nums;refine⟨h2,h3,h4,h.s,?_⟩;rcases h.lv with e|⟨a,len,cap,e,_,_,hl,hsp,ht⟩
 ·exact ⟨none,0,[],e,.inl rfl,Nat.zero_le _,fun t ht=>by simp at ht⟩
 ·have hex:∀i,∃s:ByteArray,i<len→w.cell? ⟨a.block,a.off+i,none⟩=some (.string s)∧s.size≤N:=by
   intro i;by_cases hi:i<len
   ·obtain ⟨s,h1,h2⟩:=ht i hi;exact⟨s,fun _=>⟨h1,h2⟩⟩
   ·exact ⟨ByteArray.empty,fun h=>absurd h hi⟩
  obtain⟨f,hf⟩:=Classical.axiomOfChoice hex;have hlen:((List.range len).map f).length=len:=by simp
  refine⟨some a,cap,(List.range len).map f,by rw[hlen];exact e,?_,by rw[hlen];exact hl,fun t ht=> ?_⟩
  ·rcases hsp with h0|⟨h5,h6⟩
   ·left
    subst h0;rfl
   ·right
    obtain⟨ab,ao,asp⟩:=a;simp only at h5 h6 hf;subst h5;refine⟨ab,ao,rfl,h6,fun i hi=> ?_⟩;rw[hlen]at hi;rw[(hf i hi).1];simp
  ·obtain ⟨i,hi,rfl⟩:=List.mem_map.1 ht;have:=(hf i (by simpa using hi)).2;omega
section
variable {B wb M n:Nat}{ss:Value}{x:Lw}{w:World}{o:OpV}
theorem Yt.XjC {k:Nat}{c:Array Value}{t:TypeId}{fz:Nat×Nat}(h:Yt B w wb ss x)(hc:w.heap[k]?=some (.cells c t fz))(ht:t=51):¬Zg wb x k:=by
 subst ht;rintro(rfl|hb|⟨e,he,hb⟩)
 ·have h4:=h.bk.head;unfold WAt at h4;rw[hc]at h4;simp at h4
 ·obtain ⟨c2,t2,hc2,ht2⟩:=h.bk.ty hb;rw[hc]at hc2;simp only[Option.some.injEq,Obj.cells.injEq]at hc2;rw[← hc2.2.1]at ht2;revert ht2
  unfold ZW;decide
 ·exact (h.ears e he).not hc (by unfold QP;decide) hb
theorem Yt.ltB (h:Yt B w wb ss x):∀k,Zg wb x k→k<w.heap.size:=by
 rintro k (rfl|hb|⟨e,he,hb⟩)
 ·exact h.bk.head.lt
 ·exact h.bk.lt hb
 ·exact (h.ears e he).lt hb
end
def QH (ns:List Nat)(r:Nat):Nat:=1064*(ns.take r).sum+9*min r ns.length
theorem Xai (ns:List Nat)(r:Nat):QH ns r≤QH ns (r+1):=by
 unfold QH;rw[List.take_add_one,List.sum_append];omega
theorem XcV (ns:List Nat)(r n:Nat)(h:ns[r]?=some n):QH ns (r+1)=QH ns r+(1064*n+9):=by
 unfold QH;have hl:=(List.getElem?_eq_some_iff.1 h).1;rw[List.take_add_one,List.sum_append,h];simp;omega
theorem Xnm (ns:List Nat)(r:Nat):(ns.take r).sum≤ns.sum:=by
 have:=congrArg List.sum (List.take_append_drop r ns);rw[List.sum_append]at this;omega
theorem XeT (ns:List Nat)(r:Nat):QH ns r≤1064*ns.sum+9*ns.length:=by
 unfold QH;have:=Xnm ns r;omega
theorem XnQ {ns:List Nat}(h:ns.sum≤1048576):(List.replicate 21 9++ns).sum≤1200000:=by
 have e:(List.replicate 21 9).sum=189:=by decide
 rw[List.sum_append,e];omega
theorem XdL {w:World}{g2 g3 g4:Nat}(h2:w.heap[g2]?=some (.cells #[.string ⟨#[3,63]⟩] 9 (0,0)))(h3:w.heap[g3]?=some (.cells #[.string ⟨#[3,63]⟩,.string ⟨#[104,101,108,108,111]⟩] 9 (0,0))):∀o∈YW g2 g3 g4,OpL w 9 o:=by
 have hr:∀z:Int,-100≤z→z≤100→ -9223372036854775808≤z∧z≤9223372036854775807:=fun z h1 h2=>⟨by omega,by omega⟩
 have hg:∀ {k a b d:Int} {s:ByteArray} {lv:Value} {f:Fr} {fq:Option Addr} {fc:Nat} {c0 c1 c2 c3 c4 c5:Int},(-100≤a∧a≤100)→(-100≤b∧b≤100)→(-100≤d∧d≤100)→s.size≤9→(∃(lp:Option Addr) (lc:Nat) (ls:List ByteArray),lv=.slice lp ls.length lc∧Qo w lp ls∧ls.length≤9∧∀t∈ls,t.size≤1048576)→OpL w 9 ⟨k,a,b,d,s,lv,f,fq,fc,c0,c1,c2,c3,c4,c5⟩:=
  fun ha hb hd hs hl=>⟨hr _ ha.1 ha.2,hr _ hb.1 hb.2,hr _ hd.1 hd.2,hs,hl⟩
 have hz:∃(lp:Option Addr) (lc:Nat) (ls:List ByteArray),Value.slice none 0 0=.slice lp ls.length lc∧Qo w lp ls∧ls.length≤9∧∀t∈ls,t.size≤1048576:=⟨none,0,[],rfl,.inl rfl,Nat.zero_le _,fun t ht=>by simp at ht⟩;intro o ho;simp only[YW,List.mem_cons,List.not_mem_nil,or_false]at ho;rcases ho with rfl|rfl|rfl|rfl|rfl|rfl|rfl|rfl|rfl|rfl|rfl|rfl|rfl|rfl|rfl|rfl|rfl|rfl|rfl|rfl|rfl
 case inr.inl=>
  refine hg (by decide) (by decide) (by decide) (by decide) ⟨some ⟨g2,0,none⟩,1,[⟨#[3,63]⟩],rfl,.inr ⟨g2,0,rfl,(Array.getElem?_eq_some_iff.1 h2).1,fun i hi=> ?_⟩,by decide,fun t ht=>by simp at ht;subst ht;decide⟩
  match i,hi with
  |0,_=>rw[Lib.cell_of_heap h2];rfl
 case inr.inr.inr.inl=>
  refine hg (by decide) (by decide) (by decide) (by decide) ⟨some ⟨g3,0,none⟩,2,[⟨#[3,63]⟩,⟨#[104,101,108,108,111]⟩],rfl,.inr ⟨g3,0,rfl,(Array.getElem?_eq_some_iff.1 h3).1,fun i hi=> ?_⟩,by decide,fun t ht=>by simp at ht;rcases ht with rfl|rfl <;> decide⟩
  match i,hi with
  |0,_=>rw[Lib.cell_of_heap h3];rfl
  |1,_=>rw[Lib.cell_of_heap h3];rfl
 all_goals exact hg (by decide) (by decide) (by decide) (by decide) hz
theorem XlJ {wb:Nat}{w:World}(o:OpV)(hlv:∃lp ln lc,o.lv=.slice lp ln lc)(hk:6≤o.kind∧o.kind≤19∧o.kind≠10∧o.kind≠11):
  Calls Tryz.prog 12 #[.pointer (some ⟨wb,0,none⟩),opV o] w fun e w'=>e=.returned (.bool true)∧Below w.heap.size w w':=by
 obtain⟨lp,ln,lc,hlv⟩:=hlv;obtain⟨kind,a,b,d,s,lv,⟨fa,fk,fp,fns,fnr,info⟩,fq,fc,x0,x1,x2,x3,x4,x5⟩:=o;simp only at hlv hk;subst hlv;have k1:(1:Int)≤kind:=by omega
 have k2:¬kind≤3:=by omega
 have k8:kind<21:=by omega
 have q4:(kind==4)=false:=beq_false_of_ne (by omega);have q5:(kind==5)=false:=beq_false_of_ne (by omega);have q10:(kind==10)=false:=beq_false_of_ne (by omega);have q11:(kind==11)=false:=beq_false_of_ne (by omega);have q20:(kind==20)=false:=beq_false_of_ne (by omega);obtain⟨W0,hW0⟩:∃W0,w.alloc (.cells #[.int .i64 kind,.int .i64 a,.int .i64 b,.int .i64 d,.string s,.slice lp ln lc,.int .i64 fa,.int .i64 fk,.bool fp,.int .i64 fns,.int .i64 fnr,.slice fq info.length fc,.int .i64 x0,.int .i64 x1,.int .i64 x2,.int .i64 x3,.int .i64 x4,.int .i64 x5] 34)=W0:=⟨_,rfl⟩;have hb0:Below w.heap.size w W0:=by rw[← hW0];exact(Below.refl _ w).alloc (Nat.le_refl _) _
 have hox:W0.heap[w.heap.size]?=some (.cells #[.int .i64 kind,.int .i64 a,.int .i64 b,.int .i64 d,.string s,.slice lp ln lc,.int .i64 fa,.int .i64 fk,.bool fp,.int .i64 fns,.int .i64 fnr,.slice fq info.length fc,.int .i64 x0,.int .i64 x1,.int .i64 x2,.int .i64 x3,.int .i64 x4,.int .i64 x5] 34):=by rw[← hW0];exact Xg w _
 have o0:W0.cell? ⟨w.heap.size,0,none⟩=some (.int .i64 kind):=by rw[Lib.cell_of_heap hox];rfl
 have HB0:=hide hb0;unfold opV;simp only;clear hb0 hox hk;go_enter Tryz.func12,Tryz.ntmps12
 generalize hnB:w.heap.size=nB at*;go_wp2
 go_ret
 exact⟨rfl,Xa HB0⟩
section
variable {B:Nat}{w:World}{wb M n:Nat}{own:Nat→Nat}{ss:Value}{x:Lw}{ps:List Post}
def Rest (B wb M:Nat)(own:Nat→Nat)(ss:Value)(ps:List Post)(w w':World):Prop:=∃x',Xx B w' wb own ss x' ps∧x'.small M∧Below B w w'
theorem XlI (h:Xx B w wb own ss x ps)(hsm:x.small M)(hM:M+(1064*n+9)≤200000000000){o:OpV}(ho:OpL w n o)(hok:Jv w o)(hn:n≤1048576)(hk:1≤o.kind∧o.kind≤19):
  Calls Tryz.prog 12 #[.pointer (some ⟨wb,0,none⟩),opV o] w fun e w'=>e=.returned (.bool true)∧Rest B wb (M+(1064*n+9)) own ss ps w w':=by
 obtain⟨lp,lc,ls,hlv,hT,hll,hlt⟩:=ho.lv;have hlv2:∃lp ln lc,o.lv=.slice lp ln lc:=⟨lp,ls.length,lc,hlv⟩;have hs:=ho.s;have hB:=h.top;have hpos:=h.pos;have idle:∀ {w':World},Below w.heap.size w w'→Rest B wb (M+(1064*n+9)) own ss ps w w':=fun hb=>⟨x,h.later hb,hsm.mono (by omega),hb.mono hB⟩
 have turn:∀ {M':Nat} {V w':World},M'≤M+(1064*n+9)→Below w.heap.size w V→Lfa x B wb ss M' V w'→Rest B wb (M+(1064*n+9)) own ss ps w w':=by
  intro M' V w' hle hV q;obtain⟨x',g1,g2,g3⟩:=(h.later hV).XoN q;exact⟨x',g1,g2.mono hle,(hV.mono hB).trans g3⟩
 by_cases h1:o.kind=1
 ·exact step_plain (by omega) hlv2 (fun V hV=>Xb1 (fun w' hb=>idle (hV.trans (hb.mono hV.size))) h1 hlv2 (by omega))
 by_cases h2:o.kind=2
 ·exact step_plain (by omega) hlv2 (fun V hV=>Xbv (fun w' hb=>idle (hV.trans (hb.mono hV.size))) h2 hlv (hT.below hV (Nat.le_refl _)) (by omega) hlt)
 by_cases h3:o.kind=3
 ·exact step_plain (by omega) hlv2 (fun V hV=>(XaY (h.later hV).lw hsm (by omega) (Nat.le_trans hB hV.size) h3 hlv2).mono (fun e w' q=>⟨q.1,turn (by omega) hV q.2⟩))
 by_cases h45:o.kind=4∨o.kind=5
 ·by_cases h0:x.es.length=0
  ·obtain ⟨p,c,e,_⟩:=Xf h.lw.row;have hd:=h.lw.bk.head;rw[e,h0]at hd;rcases h45 with hk|hk
   ·exact (Xea hk hlv2 hd).mono (fun e w' q=>⟨q.1,idle q.2⟩)
   ·exact (Xeb hk hlv2 hd).mono (fun e w' q=>⟨q.1,idle q.2⟩)
  ·have hpos:0<x.es.length:=by omega
   have hrow:=h.lw.row
   have hear:∀ {M':Nat} {V:World} {e:Ending} {w':World},M'≤M+(1064*n+9)→Below w.heap.size w V→(e=.returned (.bool true)∧Lfs x B wb ss M' V w')→(e=.returned (.bool true)∧Rest B wb (M+(1064*n+9)) own ss ps w w'∧Xb (Zg wb x) V w'∧w'.cell? ⟨wb,0,none⟩=some x.hs):=by
    intro M' V e w' hle hV hq;obtain⟨rfl,q⟩:=hq;refine⟨rfl,turn hle hV q.lfa,?_⟩;obtain⟨x',q1,q2,q3,q4,q5,_⟩:=q;refine⟨q4,?_⟩;rw[q1.bk.head.cell 0 _ rfl,←q5];rfl
   rcases hrow.2 with⟨_,e0⟩|⟨g,cap,cur,hhs,_,hg,_⟩
   ·omega
   ·have hes:=hsm.es
    have hec:∀i (hi:i<x.es.length),w.cell? ⟨g,i*2,none⟩=some (.pointer (some ⟨x.es[i].hb,0,none⟩))∧w.cell? ⟨g,i*2+1,none⟩=some (.pointer (some ⟨x.es[i].rb,0,none⟩)):=by
     intro i hi;have e2:=Xci x.es i hi;have a0:=World.ownsRow.cells hrow (g:=g) (by rw[hhs];rfl) (i*2) _ e2.1;have a1:=World.ownsRow.cells hrow (g:=g) (by rw[hhs];rfl) (i*2+1) _ e2.2;rw[Go.WideShapes.add_plain,Nat.zero_add]at a0 a1;exact⟨a0,a1⟩
    have hgl:=(Array.getElem?_eq_some_iff.1 hg).1;rcases h45 with hk|hk
    ·exact Xc5 (X:=Zg wb x) hk hlv2 ho.a h.lw.bk.head hhs rfl hpos (by omega) hgl (h.lw.XjC hg rfl) h.lw.ltB hec
      (fun V i hi hV=>(XdV (h.lw.later hV) hsm (by omega) (Nat.le_trans hB hV.size) hi hk hlv2).mono (fun e w' hq=>hear (by omega) hV hq))
    ·exact Xc6 (X:=Zg wb x) hk hlv2 ho.a h.lw.bk.head hhs rfl hpos (by omega) hgl (h.lw.XjC hg rfl) h.lw.ltB hec
      (fun V i hi hV=>(XdW (h.lw.later hV) hsm (by omega) (Nat.le_trans hB hV.size) hi hk hlv (hT.below hV (Nat.le_refl _)) (by omega) hlt ho.b ho.d).mono (fun e w' hq=>hear (by omega) hV hq))
 have keep:∀ {V:World},Below w.heap.size w V→Xca wb V (fun w'=>Rest B wb (M+(1064*n+9)) own ss ps w w'):=by
  intro V hV U v xs m hU hv hm;refine(Xk2 (h.later hV) hsm (by omega) U v xs m hU hv hm).mono ?_;rintro e w' ⟨rfl,x',g1,g2,g3⟩;exact⟨rfl,x',g1,g2.mono (by omega),(hV.mono hB).trans g3⟩
 by_cases h10:o.kind=10
 ·exact Xb6 h10 hlv2 (fun V hV=>XaU wb o lp ls.length lc V hlv h10 (hok.src.below hV (Nat.le_refl _)) (h.later hV).ctl (keep hV) (by have:=hV.size;omega) hok.fl)
 by_cases h11:o.kind=11
 ·exact Xb7 h11 hlv2 (fun V hV=>Xbd wb o lp ls.length lc V hlv h11 (h.later hV).ctl (keep hV) (by have:=hV.size;omega) hok.sl)
 exact(XlJ o hlv2 (by omega)).mono (fun e w' q=>⟨q.1,idle q.2⟩)
end
theorem Fit.mono {a b M M':Nat}{x:Lw}{ps:List Post}(h:Fit a b M x ps)(hM:M≤M'):Fit a b M' x ps:=⟨h.even,h.short,h.len,h.phi,h.ev,h.sm.mono (by omega)⟩
theorem Fit.with {a b M M':Nat}{x x':Lw}{ps:List Post}(h:Fit a b M x ps)(hs:x'.small (M'+hand a b+20*(a+b))):Fit a b M' x' ps:=⟨h.even,h.short,h.len,h.phi,h.ev,hs⟩
def Xpn (V:World)(ns:List Nat)(L r:Nat)(W:World):Prop:=(∃ own ss x ps a b,Xx V.heap.size W V.heap.size own ss x ps∧Fit a b (QH ns r) x ps∧a+b≤min r L)∧Below V.heap.size V W
theorem XjJ {V:World}{g cap':Nat}{os:List OpV}{ns:List Nat}(hns:ns.length=os.length)(hsum:ns.sum≤1200000)(hsm:os.length≤49990)(hC:Ctl V)(h0:0<V.heap.size)(hg:g<V.heap.size)(hops:Qy V g os)(hokl:∀(i:Nat) (o:OpV) (n:Nat),os[i]?=some o→ns[i]?=some n→OpL V n o)(hokf:∀o∈os,Jv V o)(hoks:∀o∈os,OpS V o)(hnm:∀n∈ns,n≤1048576):
  Calls Tryz.prog 11 #[.slice (some ⟨g,0,none⟩) os.length cap',.int .i64 1,.int .i64 33] V fun e w'=>e=.returned (.bool true)∧Below V.heap.size V w':=by
 have hbk:∀r,QH ns r≤3000000000:=fun r=>by have:=XeT ns r;omega
 refine XaK (lo:=1) (hi:=33) (cap:=cap') (B:=V.heap.size) hg hops (by omega) (Xpn V ns os.length) ?_ ?_ ?_ ?_ ?_
 ·refine ⟨⟨_,_,_,_,0,0,XiJ hC h0,⟨fun p hp=>by simp at hp,fun p hp=>by simp at hp,Nat.zero_le _,Nat.zero_le _,Nat.zero_le _,⟨Nat.zero_le _,Nat.zero_le _,Nat.zero_le _,Nat.zero_le _,Nat.zero_le _,fun e he=>by simp at he⟩⟩,Nat.zero_le _⟩,(Below.refl _ V).alloc (Nat.le_refl _) _⟩
 ·exact fun r W h=>h.2
 ·rintro r W ⟨⟨own,ss,x,ps,a,b,h1,h2,h3⟩,h4⟩;exact⟨⟨own,ss,x,ps,a,b,h1,h2.mono (Xai ns r),by omega⟩,h4⟩
 ·rintro r W o ho hlo hhi ⟨⟨own,ss,x,ps,a,b,h1,h2,h3⟩,h4⟩;have hr:r<os.length:=(List.getElem?_eq_some_iff.1 ho).1;have hom:=List.mem_of_getElem? ho;have hb:=hbk r;have hh:=XcF (a:=a) (b:=b) (by omega);by_cases h20:o.kind≤19
  ·obtain ⟨n,hn⟩:∃n,ns[r]?=some n:=⟨_,List.getElem?_eq_getElem (by omega)⟩;have hn2:=hnm n (List.mem_of_getElem? hn);refine(XlI h1 h2.sm (by omega) ((hokl r o n ho hn).below h4 (Nat.le_refl _)) ((hokf o hom).below h4 (Nat.le_refl _)) hn2 ⟨hlo,h20⟩).mono ?_;rintro e w' ⟨rfl,x',q1,q2,q3⟩;refine⟨rfl,⟨own,ss,x',ps,a,b,q1,h2.with ?_,by omega⟩,h4.trans q3⟩;rw[XcV ns r n hn];exact q2.mono (by omega)
  ·refine (Xcy h1 h2 (by omega) (by omega) o ((hoks o hom).below h4 (Nat.le_refl _)) ⟨by omega,hhi⟩).mono ?_;rintro e w' ⟨rfl,own',ss',x',ps',q1,q2,q3,_,_⟩;rcases q2 with q2|q2
   ·exact ⟨rfl,⟨own',ss',x',ps',a+1,b,q1,q2.mono (Xai ns r),by omega⟩,h4.trans q3⟩
   ·exact ⟨rfl,⟨own',ss',x',ps',a,b+1,q1,q2.mono (Xai ns r),by omega⟩,h4.trans q3⟩
 ·rintro r W ⟨⟨own,ss,x,ps,a,b,h1,h2,h3⟩,h4⟩;have hh:=XcF (a:=a) (b:=b) (by omega);have hb:=hbk r;refine(Xdh h1.lw h2.sm (by omega)).mono ?_;rintro e w' ⟨rfl,rfl⟩;exact⟨rfl,⟨own,ss,x,ps,a,b,h1,h2,h3⟩,h4⟩
theorem XnV {a:Option Addr}{len cap:Nat}{os:List OpV}{ns:List Nat}{w:World}(hs:Script w a len cap os)(hl21:21*len≤1048576)(hns:ns.length=len)(hsum:ns.sum≤1048576)(hokl:∀(i:Nat) (o:OpV) (n:Nat),os[i]?=some o→ns[i]?=some n→OpL w n o)(hokf:∀o∈os,Jv w o)(hoks:∀o∈os,OpS w o)(hnm:∀n∈ns,n≤1048576)(hC:Ctl w)(hw:0<w.heap.size):
  Calls Tryz.prog 7 #[.slice a len cap] w fun e w'=>e=.returned (.bool true)∧Below w.heap.size w w':=by
 have k1:Calls Tryz.prog 8 #[.slice a len cap,.int .i64 1,.int .i64 33] w fun e w'=>e=.returned (.bool true)∧Below w.heap.size w w':=by
  refine Xct hs (fun V g cap' hV hg1 hg2 h4 h2 h3 hops=> ?_);have hsz:=hV.size;have hl:(YW (w.heap.size+1+1) (w.heap.size+1+1+1) (w.heap.size+1+1+1+1)++os).length=21+len:=by rw[List.length_append,YK,hs.hlen]
  have hl2:(List.replicate 21 9++ns).length=21+len:=by rw[List.length_append,List.length_replicate,hns]
  have q:=XjJ (cap':=cap') (ns:=List.replicate 21 9++ns) (by rw[hl,hl2]) (XnQ hsum) (by rw[hl];omega) (hC.below hV hw) (by omega) hg2 hops (fun i o n ho hn=>by
   by_cases hi:i<21
   ·rw[List.getElem?_append_left (by rw[YK];exact hi)]at ho;rw[List.getElem?_append_left (by rw[List.length_replicate];exact hi)]at hn;have hn9:n=9:=List.eq_of_mem_replicate (List.mem_of_getElem? hn);subst hn9;exact XdL h2 h3 o (List.mem_of_getElem? ho)
   ·rw[List.getElem?_append_right (by rw[YK];omega),YK]at ho;rw[List.getElem?_append_right (by rw[List.length_replicate];omega),List.length_replicate]at hn;exact(hokl _ o n ho hn).below hV (Nat.le_refl _)) (fun o ho=>by
   rcases List.mem_append.1 ho with ho|ho
   ·exact Xgh h4 o ho
   ·exact (hokf o ho).below hV (Nat.le_refl _)) (fun o ho=>by
   rcases List.mem_append.1 ho with ho|ho
   ·exact Xfr h4 o ho
   ·exact (hoks o ho).below hV (Nat.le_refl _)) (fun n hn=>by
   rcases List.mem_append.1 hn with hn|hn
   ·have:=List.eq_of_mem_replicate hn;omega
   ·exact hnm n hn)
  rw[hl]at q;refine q.mono ?_;rintro e w' ⟨rfl,hb⟩;exact⟨rfl,hb.mono hsz⟩
 have K1:=hide k1;clear k1;go_enter Tryz.func7,Tryz.ntmps7
 go_wp2_with fail
 refine(Xa K1).mono ?_;rintro e w1 ⟨rfl,hb⟩;clear K1;have HB:=hide hb;clear hb;go_wp2
 go_ret
 exact⟨rfl,Xa HB⟩
end Go.Proofs.YtkalonhalhdlaaaGreatDoor
