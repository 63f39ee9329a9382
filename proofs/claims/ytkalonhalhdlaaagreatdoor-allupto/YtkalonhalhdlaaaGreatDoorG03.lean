import Derived.Test.YtkalonhalhdlaaaGreatDoorG02
import Derived.Shelf.Strings.BuilderK
import Derived.Shelf.Bytes.SlClone
set_option maxHeartbeats 8000000
set_option maxRecDepth 1000000
namespace Go.Proofs.YtkalonhalhdlaaaGreatDoor
open Go.RowKit
def frV (f:Fr)(q:Option Addr)(c:Nat):Value:=.agg #[.int .i64 f.a,.int .i64 f.k,.bool f.p,.int .i64 f.ns,.int .i64 f.nr,.slice q f.info.length c]
theorem JD (w:World)(base:Nat):w.ownsRow base 5 1 (.slice none 0 0) 0 []:=World.ownsRow_nil _ _ _ _
theorem Xml (m a k ns nr:Int)(p:Bool)(v:Value)(w:World)(h:(XP m&&Zt k&&(XX m ns (X9 k)&&XX m nr (XJ k)))=false):
  Calls Tryz.prog 32 #[.int .i64 m,.agg #[.int .i64 a,.int .i64 k,.bool p,.int .i64 ns,.int .i64 nr,v]] w fun e w'=>e=.returned (.tuple #[.slice none 0 0,.int .i64 1])∧Below w.heap.size w w':=by
 have c1:=fun w=>Y8 m w
 have c2:=fun w=>XaG k w
 have c3:=fun w=>Jb m a k ns nr p v w
 generalize (XX m ns (X9 k)&&XX m nr (XJ k))=x3 at c3 h;generalize Zt k=x2 at c2 h;generalize XP m=x1 at c1 h;have hb0:∀o,Below w.heap.size w (w.alloc o):=fun o=>(Below.refl _ w).alloc (Nat.le_refl _) o
 cases x1 with
 |false=>
  go_enter Tryz.func32,Tryz.ntmps32
  go_wp2_with fail
  refine(c1 _).mono ?_;rintro e W1 ⟨rfl,rfl⟩;go_wp2
  exact bodyPost_ret (v:=.tuple #[.slice none 0 0,.int .i64 1]) (by simp[results,Tryz.results32,go_sem]) rfl ⟨rfl,hb0 _⟩
 |true=>
  cases x2 with
  |false=>
   go_enter Tryz.func32,Tryz.ntmps32
   go_wp2_with fail
   refine(c1 _).mono ?_;rintro e W1 ⟨rfl,rfl⟩;go_wp2_with fail
   refine(c2 _).mono ?_;rintro e W1 ⟨rfl,rfl⟩;go_wp2
   exact bodyPost_ret (v:=.tuple #[.slice none 0 0,.int .i64 1]) (by simp[results,Tryz.results32,go_sem]) rfl ⟨rfl,hb0 _⟩
  |true=>
   simp at h;subst h;go_enter Tryz.func32,Tryz.ntmps32
   go_wp2_with fail
   refine(c1 _).mono ?_;rintro e W1 ⟨rfl,rfl⟩;go_wp2_with fail
   refine(c2 _).mono ?_;rintro e W1 ⟨rfl,rfl⟩;go_wp2_with fail
   refine(c3 _).mono ?_;rintro e W1 ⟨rfl,hb⟩;go_wp2
   exact bodyPost_ret (v:=.tuple #[.slice none 0 0,.int .i64 1]) (by simp[results,Tryz.results32,go_sem]) rfl ⟨rfl,(hb0 _).trans (hb.mono (by simp))⟩
theorem Xki (m a k ns nr:Int)(p:Bool)(v:Value)(w:World)(h:(XP m&&Zt k&&(XX m ns (X9 k)&&XX m nr (XJ k)))=true)(ha:XL a=false):
  Calls Tryz.prog 32 #[.int .i64 m,.agg #[.int .i64 a,.int .i64 k,.bool p,.int .i64 ns,.int .i64 nr,v]] w fun e w'=>e=.returned (.tuple #[.slice none 0 0,.int .i64 3])∧Below w.heap.size w w':=by
 have c1:=fun w=>Y8 m w
 have c2:=fun w=>XaG k w
 have c3:=fun w=>Jb m a k ns nr p v w
 have c4:=fun w=>ZG a w
 simp only[Bool.and_eq_true]at h;rw[h.1.1]at c1;rw[h.1.2]at c2;rw[h.2.1,h.2.2]at c3;rw[ha]at c4;clear h ha;simp only[Bool.and_self]at c3;have hb0:∀o,Below w.heap.size w (w.alloc o):=fun o=>(Below.refl _ w).alloc (Nat.le_refl _) o
 go_enter Tryz.func32,Tryz.ntmps32
 go_wp2_with fail
 refine(c1 _).mono ?_;rintro e W1 ⟨rfl,rfl⟩;go_wp2_with fail
 refine(c2 _).mono ?_;rintro e W1 ⟨rfl,rfl⟩;go_wp2_with fail
 refine(c3 _).mono ?_;rintro e W1 ⟨rfl,hb⟩;have r0:W1.cell? ⟨w.heap.size,0,none⟩=some (.int .i64 a):=by rw[hb.cell (p:=⟨w.heap.size,0,none⟩) (by simp)];simp
 go_wp2_with fail
 refine(c4 _).mono ?_;rintro e W2 ⟨rfl,rfl⟩;go_wp2
 exact bodyPost_ret (v:=.tuple #[.slice none 0 0,.int .i64 3]) (by simp[results,Tryz.results32,go_sem]) rfl ⟨rfl,(hb0 _).trans (hb.mono (by simp))⟩
theorem Xkj (m a k ns nr:Int)(p:Bool)(q:Option Addr)(n c:Nat)(w:World)(h:(XP m&&Zt k&&(XX m ns (X9 k)&&XX m nr (XJ k)))=true)(ha:XL a=true)(hi:Yc m k n=false):
  Calls Tryz.prog 32 #[.int .i64 m,.agg #[.int .i64 a,.int .i64 k,.bool p,.int .i64 ns,.int .i64 nr,.slice q n c]] w fun e w'=>e=.returned (.tuple #[.slice none 0 0,.int .i64 5])∧Below w.heap.size w w':=by
 have c1:=fun w=>Y8 m w
 have c2:=fun w=>XaG k w
 have c3:=fun w=>Jb m a k ns nr p (.slice q n c) w
 have c4:=fun w=>ZG a w
 have c5:=fun w=>QY m k n w
 simp only[Bool.and_eq_true]at h;rw[h.1.1]at c1;rw[h.1.2]at c2;rw[h.2.1,h.2.2]at c3;rw[ha]at c4;rw[hi]at c5;clear h ha hi;simp only[Bool.and_self]at c3;have hb0:∀o,Below w.heap.size w (w.alloc o):=fun o=>(Below.refl _ w).alloc (Nat.le_refl _) o
 go_enter Tryz.func32,Tryz.ntmps32
 go_wp2_with fail
 refine(c1 _).mono ?_;rintro e W1 ⟨rfl,rfl⟩;go_wp2_with fail
 refine(c2 _).mono ?_;rintro e W1 ⟨rfl,rfl⟩;go_wp2_with fail
 refine(c3 _).mono ?_;rintro e W1 ⟨rfl,hb⟩;have r0:W1.cell? ⟨w.heap.size,0,none⟩=some (.int .i64 a):=by rw[hb.cell (p:=⟨w.heap.size,0,none⟩) (by simp)];simp
 have r1:W1.cell? ⟨w.heap.size,1,none⟩=some (.int .i64 k):=by rw[hb.cell (p:=⟨w.heap.size,1,none⟩) (by simp)];simp
 have r5:W1.cell? ⟨w.heap.size,5,none⟩=some (.slice q n c):=by rw[hb.cell (p:=⟨w.heap.size,5,none⟩) (by simp)];simp
 go_wp2_with fail
 refine(c4 _).mono ?_;rintro e W2 ⟨rfl,rfl⟩;go_wp2_with fail
 refine(c5 _).mono ?_;rintro e W2 ⟨rfl,rfl⟩;go_wp2
 exact bodyPost_ret (v:=.tuple #[.slice none 0 0,.int .i64 5]) (by simp[results,Tryz.results32,go_sem]) rfl ⟨rfl,(hb0 _).trans (hb.mono (by simp))⟩
abbrev Held (B:Nat)(W:World)(a k:Int)(p:Bool)(ns nr:Int)(v:Value)(w':World):Prop:=
 w'.cell? ⟨B,0,none⟩=some (.int .i64 a)∧w'.cell? ⟨B,1,none⟩=some (.int .i64 k)∧w'.cell? ⟨B,2,none⟩=some (.bool p)∧w'.cell? ⟨B,3,none⟩=some (.int .i64 ns)∧w'.cell? ⟨B,4,none⟩=some (.int .i64 nr)∧w'.cell? ⟨B,5,none⟩=some v∧Below (B+1) W w'
theorem Held.of {B:Nat}{W:World}{a k:Int}{p:Bool}{ns nr:Int}{v:Value}{w' w'':World}(h:Held B W a k p ns nr v w'){n:Nat}(hb:Below n w' w'')(hn:B+1≤n):Held B W a k p ns nr v w'':=by
 obtain⟨h0,h1,h2,h3,h4,h5,h6⟩:=h;have e:∀i,w''.cell? ⟨B,i,none⟩=w'.cell? ⟨B,i,none⟩:=fun i=>hb.cell (p:=⟨B,i,none⟩) hn
 exact⟨by rw[e];exact h0,by rw[e];exact h1,by rw[e];exact h2,by rw[e];exact h3,by rw[e];exact h4,by rw[e];exact h5,h6.trans (hb.mono hn)⟩
theorem Held.alloc {B:Nat}{W:World}{a k:Int}{p:Bool}{ns nr:Int}{v:Value}{w':World}(h:Held B W a k p ns nr v w')(hW:B+1≤W.heap.size)(o:Obj):Held B W a k p ns nr v (w'.alloc o):=
 h.of ((Below.refl w'.heap.size w').alloc (Nat.le_refl _) o) (Nat.le_trans hW h.2.2.2.2.2.2.size)
theorem Held.drew {B:Nat}{W:World}{a k:Int}{p:Bool}{ns nr:Int}{v:Value}{w':World}(h:Held B W a k p ns nr v w'):Held B W a k p ns nr v w'.drew:=
 h.of ((Below.refl (B+1) w').drew) (Nat.le_refl _)
theorem XiH (w X:World)(ab b cb c:Nat)(av:UInt8)(ctl l:List UInt8)(q:Option Addr)(hwX:Below w.heap.size w X)(hA:Seg X ab 0 [av])(hab:ab<X.heap.size)(hB:Seg X b 0 ctl)(hb:b<X.heap.size)(hsrc:XU X q l)(hcb:ctl.length=cb)(hc:cb≤2)(hl:l.length≤32):
  Calls Tryz.prog 76 #[.slice (some ⟨X.heap.size,0,none⟩) 3 3] (X.alloc (.cells #[.slice (some ⟨ab,0,none⟩) 1 1,.slice (some ⟨b,0,none⟩) cb cb,.slice q l.length c] 28)) fun e w'=>∃v,e=.returned v∧w'.ownsRow w.heap.size 5 1 v (1+cb+l.length) (Lib.byteCells (av::(ctl++l)))∧Below (X.alloc (.cells #[.slice (some ⟨ab,0,none⟩) 1 1,.slice (some ⟨b,0,none⟩) cb cb,.slice q l.length c] 28)).heap.size (X.alloc (.cells #[.slice (some ⟨ab,0,none⟩) 1 1,.slice (some ⟨b,0,none⟩) cb cb,.slice q l.length c] 28)) w'∧Hid (Below w.heap.size w w'):=by
 subst hcb;have hX:Below X.heap.size X (X.alloc (.cells #[.slice (some ⟨ab,0,none⟩) 1 1,.slice (some ⟨b,0,none⟩) ctl.length ctl.length,.slice q l.length c] 28)):=(Below.refl _ X).alloc (Nat.le_refl _) _
 have hP:PartsAt (X.alloc (.cells #[.slice (some ⟨ab,0,none⟩) 1 1,.slice (some ⟨b,0,none⟩) ctl.length ctl.length,.slice q l.length c] 28)) X.heap.size [(some ⟨ab,0,none⟩,1,[av]),(some ⟨b,0,none⟩,ctl.length,ctl),(q,c,l)]:=by
  intro i hi;have h3:i=0∨i=1∨i=2:=by simp at hi;omega
  rcases h3 with rfl|rfl|rfl
  ·exact ⟨by simp,.inr ⟨ab,0,rfl,by simp;omega,hA.below hX hab⟩⟩
  ·exact ⟨by simp,.inr ⟨b,0,rfl,by simp;omega,hB.below hX hb⟩⟩
  ·exact ⟨by simp,hsrc.below hX (Nat.le_refl _)⟩
 have e:Qc [(some ⟨ab,0,none⟩,1,[av]),(some ⟨b,0,none⟩,ctl.length,ctl),(q,c,l)]=av::(ctl++l):=by simp[Qc]
 have hlen:(av::(ctl++l)).length=1+ctl.length+l.length:=by simp;omega
 have h:=Xi9 X.heap.size 3 _ _ hP (by simp) (by simp) (by rw[e,hlen];omega) (by rw[e,hlen];omega);rw[e,hlen]at h;refine h.mono ?_;rintro e w' ⟨v,rfl,hown,hbl⟩;have hz:=hwX.size;refine⟨v,rfl,Xw hown (by simp;omega),hbl,?_⟩;exact(hwX.trans (hX.mono hz)).trans (hbl.mono (by simp;omega))
theorem XeO {a:Int}(ha:XL a=true):IntKind.u8.wrap a=((UInt8.ofNat a.toNat).toNat:Int):=by
 simp[XL]at ha;rcases ha with rfl|rfl <;> decide
theorem XoZ (W:World)(x:UInt8):Seg (W.alloc (.cells #[.int .u8 (x.toNat:Int)] 5)) W.heap.size 0 [x]:=by
 intro i hi;simp at hi;subst hi;simp
theorem Xpq {w W w':World}{b cb c:Nat}{x:UInt8}{ctl l:List UInt8}{q:Option Addr}(hwW:Below w.heap.size w W)(hbl:Below (W.alloc (.cells #[.int .u8 (x.toNat:Int)] 5)).drew.heap.size (W.alloc (.cells #[.int .u8 (x.toNat:Int)] 5)).drew w')(hseg:Seg w' b 0 ctl)(hb2:b<w'.heap.size)(hsrc:XU w q l)(hcl:ctl.length=cb)(hc2:cb≤2)(hl:l.length≤32):
  Calls Tryz.prog 76 #[.slice (some ⟨w'.heap.size,0,none⟩) 3 3] (w'.alloc (.cells #[.slice (some ⟨W.heap.size,0,none⟩) 1 1,.slice (some ⟨b,0,none⟩) cb cb,.slice q l.length c] 28)) fun e w''=>∃v,e=.returned v∧w''.ownsRow w.heap.size 5 1 v (1+cb+l.length) (Lib.byteCells (x::(ctl++l)))∧Below (w'.alloc (.cells #[.slice (some ⟨W.heap.size,0,none⟩) 1 1,.slice (some ⟨b,0,none⟩) cb cb,.slice q l.length c] 28)).heap.size (w'.alloc (.cells #[.slice (some ⟨W.heap.size,0,none⟩) 1 1,.slice (some ⟨b,0,none⟩) cb cb,.slice q l.length c] 28)) w''∧Hid (Below w.heap.size w w''):=by
 have hz:=hwW.size;have hz2:=hbl.size;have e1:(W.alloc (.cells #[.int .u8 (x.toNat:Int)] 5)).drew.heap.size=W.heap.size+1:=by simp
 rw[e1]at hz2 hbl;have h1:Below W.heap.size W w':=((Below.refl W.heap.size W).alloc (Nat.le_refl _) _).drew.trans (hbl.mono (by omega));refine XiH w w' W.heap.size b cb c x ctl l q (hwW.trans (h1.mono hz)) ?_ (by omega) hseg hb2 ?_ hcl hc2 hl
 ·exact Seg.below (w:=(W.alloc (.cells #[.int .u8 (x.toNat:Int)] 5)).drew) (XoZ W x) hbl (by omega)
 ·exact (hsrc.below hwW (Nat.le_refl _)).below h1 (Nat.le_refl _)
theorem Xpr {w W w':World}{b cb c:Nat}{x:UInt8}{ctl l:List UInt8}{q:Option Addr}(hwW:Below w.heap.size w W)(hbl:Below W.drew.heap.size W.drew w')(hseg:Seg w' b 0 ctl)(hb2:b<w'.heap.size)(hsrc:XU w q l)(hcl:ctl.length=cb)(hc2:cb≤2)(hl:l.length≤32):
  Calls Tryz.prog 76 #[.slice (some ⟨w'.heap.size+1,0,none⟩) 3 3] ((w'.alloc (.cells #[.int .u8 (x.toNat:Int)] 5)).alloc (.cells #[.slice (some ⟨w'.heap.size,0,none⟩) 1 1,.slice (some ⟨b,0,none⟩) cb cb,.slice q l.length c] 28)) fun e w''=>∃v,e=.returned v∧w''.ownsRow w.heap.size 5 1 v (1+cb+l.length) (Lib.byteCells (x::(ctl++l)))∧Below ((w'.alloc (.cells #[.int .u8 (x.toNat:Int)] 5)).alloc (.cells #[.slice (some ⟨w'.heap.size,0,none⟩) 1 1,.slice (some ⟨b,0,none⟩) cb cb,.slice q l.length c] 28)).heap.size ((w'.alloc (.cells #[.int .u8 (x.toNat:Int)] 5)).alloc (.cells #[.slice (some ⟨w'.heap.size,0,none⟩) 1 1,.slice (some ⟨b,0,none⟩) cb cb,.slice q l.length c] 28)) w''∧Hid (Below w.heap.size w w''):=by
 have hz:=hwW.size;have hz2:=hbl.size;have e1:W.drew.heap.size=W.heap.size:=rfl;have e2:(w'.alloc (.cells #[.int .u8 (x.toNat:Int)] 5)).heap.size=w'.heap.size+1:=by simp
 rw[← e2];rw[e1]at hz2 hbl;have h1:Below W.heap.size W w':=(Below.refl W.heap.size W).drew.trans hbl;have h2:Below w'.heap.size w' (w'.alloc (.cells #[.int .u8 (x.toNat:Int)] 5)):=(Below.refl _ w').alloc (Nat.le_refl _) _;refine XiH w (w'.alloc (.cells #[.int .u8 (x.toNat:Int)] 5)) w'.heap.size b cb c x ctl l q ((hwW.trans (h1.mono hz)).trans (h2.mono (by omega))) (XoZ w' x) (by simp) (hseg.below h2 hb2) (by simp;omega) ?_ hcl hc2 hl;exact((hsrc.below hwW (Nat.le_refl _)).below h1 (Nat.le_refl _)).below h2 (Nat.le_refl _)
theorem Xd1 {m k ns nr:Nat}(h:Xay m k ns nr):(XX m ns (X9 k)&&XX m nr (XJ k))=true:=by
 obtain⟨hm,k1,k9,a1,a2,b1,b2⟩:=h
 have e1:XX m ns (X9 k)=true:=by
  by_cases h:k=1
  ·subst h;have:=a1 rfl;simp[XX,X9];omega
  ·have hs:X9 k=false:=by simp[X9];omega
   have:=a2 h;simp[XX,hs,this]
 have e2:XX m nr (XJ k)=true:=by
  by_cases h:k≤4
  ·have hr:XJ k=true:=by simp[XJ];omega
   have:=b1 h;simp[XX,hr];omega
  ·have hr:XJ k=false:=by simp[XJ];omega
   have:=b2 (by omega);simp[XX,hr,this]
 rw[e1,e2];rfl
theorem XnM (m k ns nr:Nat)(a:Int)(p:Bool)(q:Option Addr)(l:List UInt8)(c:Nat)(w:World)(ok:Xay m k ns nr)(ha:XL a=true)(hi:Yc m k l.length=true)(hC:Ctl w)(hs:0<w.heap.size)(hsrc:XU w q l):
  Calls Tryz.prog 32 #[.int .i64 m,.agg #[.int .i64 a,.int .i64 k,.bool p,.int .i64 ns,.int .i64 nr,.slice q l.length c]] w fun e w'=>∃v,e=.returned (.tuple #[v,.int .i64 0])∧w'.ownsRow w.heap.size 5 1 v (1+cbN m k+l.length) (Lib.byteCells (UInt8.ofNat a.toNat::(Yo m k ns nr p++l)))∧Below w.heap.size w w':=by
 have c1:=fun w=>Y8 m w
 have c2:=fun w=>XaG k w
 have c3:=fun w=>Jb m a k ns nr p (.slice q l.length c) w
 have c4:=fun w=>ZG a w
 have c5:=fun w=>QY m k l.length w
 have hm:XP m=true:=by rcases ok.1 with rfl|rfl <;> rfl
 have hk:Zt k=true:=by have:=ok.2.1;have:=ok.2.2.1;simp[Zt];omega
 have hn:(XX m ns (X9 k)&&XX m nr (XJ k))=true:=Xd1 ok;rw[hm]at c1;rw[hk]at c2;rw[hn]at c3;rw[ha]at c4;rw[hi]at c5;clear hm hk hn;have hb0:∀o,Below w.heap.size w (w.alloc o):=fun o=>(Below.refl _ w).alloc (Nat.le_refl _) o
 go_enter Tryz.func32,Tryz.ntmps32
 go_wp2_with fail
 refine(c1 _).mono ?_;rintro e W1 ⟨rfl,rfl⟩;go_wp2_with fail
 refine(c2 _).mono ?_;rintro e W1 ⟨rfl,rfl⟩;go_wp2_with fail
 refine(c3 _).mono ?_;rintro e W1 ⟨rfl,hb⟩;have r0:W1.cell? ⟨w.heap.size,0,none⟩=some (.int .i64 a):=by rw[hb.cell (p:=⟨w.heap.size,0,none⟩) (by simp)];simp
 have r1:W1.cell? ⟨w.heap.size,1,none⟩=some (.int .i64 k):=by rw[hb.cell (p:=⟨w.heap.size,1,none⟩) (by simp)];simp
 have r2:W1.cell? ⟨w.heap.size,2,none⟩=some (.bool p):=by rw[hb.cell (p:=⟨w.heap.size,2,none⟩) (by simp)];simp
 have r3:W1.cell? ⟨w.heap.size,3,none⟩=some (.int .i64 ns):=by rw[hb.cell (p:=⟨w.heap.size,3,none⟩) (by simp)];simp
 have r4:W1.cell? ⟨w.heap.size,4,none⟩=some (.int .i64 nr):=by rw[hb.cell (p:=⟨w.heap.size,4,none⟩) (by simp)];simp
 have r5:W1.cell? ⟨w.heap.size,5,none⟩=some (.slice q l.length c):=by rw[hb.cell (p:=⟨w.heap.size,5,none⟩) (by simp)];simp
 go_wp2_with fail
 refine(c4 _).mono ?_;rintro e W2 ⟨rfl,rfl⟩;go_wp2_with fail
 refine(c5 _).mono ?_;rintro e W2 ⟨rfl,rfl⟩;go_wp2
 obtain⟨x,hx,hwa⟩:∃x:UInt8,UInt8.ofNat a.toNat=x∧IntKind.u8.wrap a=(x.toNat:Int):=⟨_,rfl,XeO ha⟩;have hcl:(Yo m k ns nr p).length=cbN m k:=by unfold Yo cbN;split <;> rfl
 have hc2:cbN m k≤2:=by unfold cbN;split <;> omega
 have hl:l.length≤32:=by
  unfold Yc JE at hi;split at hi
  ·have:=of_decide_eq_true hi;omega
  ·split at hi
   ·have:=eq_of_beq hi;split at this <;> omega
   ·have:=eq_of_beq hi;omega
 have hW:w.heap.size+1≤W2.heap.size:=by have:=hb.size;simp at this;exact this
 have hB1:Held w.heap.size W2 a k p ns nr (.slice q l.length c) W2:=⟨r0,r1,r2,r3,r4,r5,Below.refl _ _⟩;have hwW:Below w.heap.size w W2:=(hb0 _).trans (hb.mono (by simp));have hCW:Ctl W2:=hC.below hwW hs;clear c1 c2 c3 c4 c5 hb r0 r1 r2 r3 r4 r5 hb0;go_region_held3 (fun w'=>Held w.heap.size W2 a k p ns nr (.slice q l.length c) w') (first|exact Held.drew (by assumption)|exact Held.alloc (by assumption) hW _|exact Held.of (by assumption) (by assumption) (by have h:Held w.heap.size W2 a k p ns nr (.slice q l.length c) _:=(by assumption);exact Nat.le_trans hW h.2.2.2.2.2.2.size)) (first|(go_at_call 77;have hh:Held w.heap.size W2 a k p ns nr (.slice q l.length c) _:=(by assumption);refine(XhI m k ns nr a p _ _ (hCW.below hh.2.2.2.2.2.2 (by omega)) (by have:=hh.2.2.2.2.2.2.size;omega) ok).mono ?_;clear hh;rintro e w' ⟨b,rfl,hb1,hb2,hseg,hbl⟩)|(go_at_call 76;have hq:Below W2.drew.heap.size W2.drew w':=(by assumption);refine(Xpr hwW hq hseg hb2 hsrc hcl hc2 hl).mono ?_;clear hq;rintro e w'' ⟨v,rfl,hown,hbl2,hbw⟩)|(go_at_call 76;have hq:Below (W2.alloc (.cells #[.int .u8 (x.toNat:Int)] 5)).drew.heap.size (W2.alloc (.cells #[.int .u8 (x.toNat:Int)] 5)).drew w':=(by assumption);refine(Xpq hwW hq hseg hb2 hsrc hcl hc2 hl).mono ?_;clear hq;rintro e w'' ⟨v,rfl,hown,hbl2,hbw⟩))
 all_goals (go_wp2;exact bodyPost_ret (v:=.tuple #[v,.int .i64 0]) (by simp[results,Tryz.results32,go_sem]) rfl ⟨v,rfl,by rw[hx];exact hown,hbw.out⟩)
theorem XgP {m k ns nr:Int}(h:(XP m&&Zt k&&(XX m ns (X9 k)&&XX m nr (XJ k)))=true):∃m' k' ns' nr':Nat,m=m'∧k=k'∧ns=ns'∧nr=nr'∧Xay m' k' ns' nr':=by
 simp only[Bool.and_eq_true]at h;obtain⟨⟨hm,hk⟩,h1,h2⟩:=h;have hm':m=8∨m=128:=by simpa[XP]using hm
 have hk':1≤k∧k≤9:=by simpa[Zt]using hk
 have q1:0≤ns∧(k=1→ns<m)∧(k≠1→ns=0):=by
  by_cases e:k=1
  ·simp[XX,X9,e]at h1;omega
  ·simp[XX,X9,e]at h1;omega
 have q2:0≤nr∧(k≤4→nr<m)∧(4<k→nr=0):=by
  by_cases e:k≤4
  ·have hr:XJ k=true:=by simp[XJ];omega
   simp[XX,hr]at h2;omega
  ·have hr:XJ k=false:=by simp[XJ];omega
   simp[XX,hr]at h2;omega
 exact⟨m.toNat,k.toNat,ns.toNat,nr.toNat,by omega,by omega,by omega,by omega,by omega,by omega,by omega,by omega,by omega,by omega,by omega⟩
theorem write_any (m:Int)(f:Fr)(q:Option Addr)(c:Nat)(w:World)(hC:Ctl w)(hs:0<w.heap.size)(hsrc:XU w q f.info):
  Calls Tryz.prog 32 #[.int .i64 m,frV f q c] w fun e w'=>∃v,e=.returned (.tuple #[v,.int .i64 ((XT m f).1:Nat)])∧w'.ownsRow w.heap.size 5 1 v (XT m f).2.length (Lib.byteCells (XT m f).2)∧((XT m f).1≠0→v=.slice none 0 0)∧Below w.heap.size w w':=by
 unfold frV XT;by_cases h1:(XP m&&Zt f.k&&XX m f.ns (X9 f.k)&&XX m f.nr (XJ f.k))=false
 ·rw[if_pos h1];refine(Xml m f.a f.k f.ns f.nr f.p _ w (by rw[← Bool.and_assoc];exact h1)).mono ?_;rintro e w' ⟨rfl,hb⟩;exact⟨_,rfl,JD _ _,fun _=>rfl,hb⟩
 ·rw[if_neg h1];have h1':(XP m&&Zt f.k&&(XX m f.ns (X9 f.k)&&XX m f.nr (XJ f.k)))=true:=by rw[← Bool.and_assoc];exact eq_true_of_ne_false h1
  by_cases h2:XL f.a=false
  ·rw[if_pos h2];refine(Xki m f.a f.k f.ns f.nr f.p _ w h1' h2).mono ?_;rintro e w' ⟨rfl,hb⟩;exact⟨_,rfl,JD _ _,fun _=>rfl,hb⟩
  ·rw[if_neg h2];have h2':XL f.a=true:=by simpa using h2
   by_cases h3:Yc m f.k f.info.length=false
   ·rw[if_pos h3];refine(Xkj m f.a f.k f.ns f.nr f.p q f.info.length c w h1' h2' h3).mono ?_;rintro e w' ⟨rfl,hb⟩;exact⟨_,rfl,JD _ _,fun _=>rfl,hb⟩
   ·rw[if_neg h3];have h3':Yc m f.k f.info.length=true:=by simpa using h3
    obtain⟨m',k',ns',nr',em,ek,es,er,ok⟩:=XgP h1';rw[em,ek,es,er];rw[em,ek]at h3';refine(XnM m' k' ns' nr' f.a f.p q f.info c w ok h2' h3' hC hs hsrc).mono ?_;rintro e w' ⟨v,rfl,hown,hb⟩;refine⟨v,rfl,?_,fun h=>absurd rfl h,hb⟩;simp only[Int.toNat_natCast]
    have e1:(UInt8.ofNat f.a.toNat::(Yo m' k' ns' nr' f.p++f.info)).length=1+cbN m' k'+f.info.length:=by
     have:(Yo m' k' ns' nr' f.p).length=cbN m' k':=by unfold Yo cbN;split <;> rfl
     simp[this];omega
    rw[e1];exact hown
def tg (i p:Nat):Nat:=5*i+p+1
theorem Xz {i j p q:Nat}(hp:p<5)(hq:q<5)(h:i≠j∨p≠q):tg i p≠tg j q:=by unfold tg;omega
theorem Xq (i p:Nat):tg i p≠0:=by unfold tg;omega
def BytesAt (w:World)(own:Nat→Nat)(t:Nat)(x:Value)(m:Msg):Prop:=
 w.ownsRow 0 5 1 x m.length (Lib.byteCells m)∧∀k,x.ownBlock=some k→own k=t
def ZV (ents:List Value):Prop:=∀(i j:Nat) (x y:Value) (k:Nat),i≠j→ents[i]?=some x→ents[j]?=some y→x.ownBlock=some k→y.ownBlock≠some k
theorem ZV.nil:ZV []:=fun i j x y k _ h=>by simp at h
theorem ZV.one (v:Value):ZV [v]:=fun i j x y k hij h1 h2=>by
 rcases i with _|i
 ·rcases j with _|j
  ·exact absurd rfl hij
  ·simp at h2
 ·simp at h1
theorem ZV.drop {ents:List Value}(h:ZV ents)(n:Nat):ZV (ents.drop n):=fun i j x y k hij h1 h2=>by
 rw[List.getElem?_drop]at h1 h2;exact h (n+i) (n+j) x y k (by omega) h1 h2
theorem ZV.snoc {ents:List Value}(h:ZV ents){z:Value}(hz:∀(i:Nat) (x:Value) (k:Nat),ents[i]?=some x→x.ownBlock=some k→z.ownBlock≠some k):ZV (ents++[z]):=fun i j x y k hij h1 h2 hx=>by
 by_cases hi:i<ents.length
 ·rw[List.getElem?_append_left hi]at h1;by_cases hj:j<ents.length
  ·rw[List.getElem?_append_left hj]at h2;exact h i j x y k hij h1 h2 hx
  ·rw[List.getElem?_append_right (by omega)]at h2
   have e:z=y:=by
    rcases hd:j-ents.length with _|d
    ·rw[hd]at h2;simpa using h2
    ·rw[hd]at h2;simp at h2
   rw[← e];exact hz i x k h1 hx
 ·rw[List.getElem?_append_right (by omega)]at h1
  have e0:i-ents.length=0:=by
   rcases hd:i-ents.length with _|d
   ·rfl
   ·rw[hd]at h1;simp at h1
  have e:z=x:=by rw[e0]at h1;simpa using h1
  by_cases hj:j<ents.length
  ·rw[List.getElem?_append_left hj]at h2;intro hy;exact hz j y k h2 hy (by rw[e];exact hx)
  ·rw[List.getElem?_append_right (by omega)]at h2
   have e1:j-ents.length=0:=by
    rcases hd:j-ents.length with _|d
    ·rfl
    ·rw[hd]at h2;simp at h2
   omega
structure Lst (w:World)(own:Nat→Nat)(t:Nat)(v:Value)(ents:List Value)(l:List Msg):Prop where
 row:w.ownsRow 0 28 1 v l.length ents
 rown:∀k,v.ownBlock=some k→own k=t
 each:∀(j:Nat) (x:Value) (m:Msg),ents[j]?=some x→l[j]?=some m→BytesAt w own t x m
 apart:ZV ents
theorem Xc {X:Nat→Prop}{w w':World}{b0:Nat}{e:TypeId}{size:Nat}{v:Value}{n:Nat}{xs:List Value}(h:w.ownsRow b0 e size v n xs)(hk:Xb X w w')(hx:∀k,v.ownBlock=some k→¬X k):w'.ownsRow b0 e size v n xs:=by
 obtain⟨h1,h2⟩:=h;refine⟨h1,?_⟩;rcases h2 with h2|⟨g,cap,cur,e1,e2,e3,e4⟩
 ·exact Or.inl h2
 ·refine Or.inr ⟨g,cap,cur,e1,e2,?_,e4⟩;rw[hk.block g (Array.getElem?_eq_some_iff.1 e3).1 (hx g (by rw[e1];rfl))];exact e3
section
variable {w w':World}{own own':Nat→Nat}{t:Nat}{v x:Value}{ents:List Value}{l:List Msg}{m:Msg}{X:Nat→Prop}
theorem BytesAt.keeps (h:BytesAt w own t x m)(hk:Xb X w w')(hx:∀k,X k→own k≠t)(ho:∀k,k<w.heap.size→own' k=own k):BytesAt w' own' t x m:=
 ⟨Xc h.1 hk (fun k hb hX=>hx k hX (h.2 k hb)),fun k hb=>(ho k (World.ownsRow.lt h.1 k hb).2).trans (h.2 k hb)⟩
theorem Lst.keeps (h:Lst w own t v ents l)(hk:Xb X w w')(hx:∀k,X k→own k≠t)(ho:∀k,k<w.heap.size→own' k=own k):Lst w' own' t v ents l:=
 ⟨Xc h.row hk (fun k hb hX=>hx k hX (h.rown k hb)),fun k hb=>(ho k (World.ownsRow.lt h.row k hb).2).trans (h.rown k hb),fun j y mm h1 h2=>(h.each j y mm h1 h2).keeps hk hx ho,h.apart⟩
theorem Lst.nil (w:World)(own:Nat→Nat)(t:Nat):Lst w own t (.slice none 0 0) [] []:=
 ⟨World.ownsRow_nil _ _ _ _,fun k h=>by simp[Value.ownBlock]at h,fun j x m h=>by simp at h,.nil⟩
theorem Lst.len (h:Lst w own t v ents l):ents.length=l.length:=by have:=h.row.1;omega
theorem Lst.snoc (h:Lst w own t v ents l){z:Value}(hz:∀k,z.ownBlock=some k→own k≠t):ZV (ents++[z]):=
 h.apart.snoc (fun i x k h1 h2 h3=>by
  have hi:=(List.getElem?_eq_some_iff.1 h1).1;have hl:=h.len;exact hz k h3 ((h.each i x l[i] h1 (List.getElem?_eq_getElem (by omega))).2 k h2))
theorem Lst.slice (h:Lst w own t v ents l):∃p cap,v=.slice p l.length cap∧l.length≤cap∧cap≤maxLen:=by
 rcases h.row.2 with⟨h1,h2⟩|⟨g,cap,cur,h1,_,_,h3,h4,_⟩
 ·exact ⟨none,0,by rw[h1,h2],by omega,by unfold maxLen;omega⟩
 ·exact ⟨_,cap,h1,h3,h4⟩
end
structure St.fit (c:Cfg)(s:St):Prop where
 state:s.state≤4
 vs:s.vs<c.m
 va:s.va<c.m
 vr:s.vr<c.m
 vm:s.vm<c.m
 q20:s.queue.length≤20
 q32:∀x∈s.queue,x.length≤32
 timer:s.timer≤c.tim
 tries:s.tries≤c.tri
 came:s.came.length≤c.room
theorem St.ok.fit {c:Cfg}{s:St}(h:s.ok c):s.fit c:=⟨h.state,h.vs,h.va,h.vr,h.vm,h.q20,h.q32,h.timer,h.tries,h.came⟩
theorem St.fit.out {c:Cfg}{s:St}(h:s.fit c)(x:List Msg):St.fit c {s with out:=x}:=⟨h.state,h.vs,h.va,h.vr,h.vm,h.q20,h.q32,h.timer,h.tries,h.came⟩
theorem St.fit.events {c:Cfg}{s:St}(h:s.fit c)(x:List Nat):St.fit c {s with events:=x}:=⟨h.state,h.vs,h.va,h.vr,h.vm,h.q20,h.q32,h.timer,h.tries,h.came⟩
theorem JC {c:Cfg}{s:St}(hc:c.ok)(h:s.fit c)(k:Nat)(hk:k≤4)(tm tr:Nat)(htm:tm≤c.tim)(htr:tr≤c.tri):St.fit c {over s with state:=k,timer:=tm,tries:=tr}:=
 ⟨hk,hc.pos,hc.pos,hc.pos,hc.pos,by simp[over],by simp[over],htm,htr,h.came⟩
def Zm (c:Cfg)(s:St)(ch:Nat)(q cm o ev:Value):Array Value:=
 #[.int .i64 c.m,.int .i64 c.win,.int .i64 c.tim,.int .i64 c.tri,.int .i64 c.room,.int .i64 c.addr,.chan (some ch),.int .i64 s.state,
  .int .i64 s.vs,.int .i64 s.va,.int .i64 s.vr,.int .i64 s.vm,q,.int .i64 s.timer,.int .i64 s.tries,.bool s.Xh,.bool s.peer,.bool s.Xu,
  .bool s.busy,cm,o,ev]
structure SAt (w:World)(own:Nat→Nat)(i b:Nat)(c:Cfg)(s:St)(cl:Bool)(ch:Nat)(q cm o ev:Value)(qe ce oe:List Value):Prop where
 head:w.heap[b]?=some (.cells (Zm c s ch q cm o ev) 135 (0,0))
 ownb:own b=tg i 0
 chan:w.heap[ch]?=some (.chan 0 #[] cl 0 0 false)
 ownc:own ch=tg i 0
 lq:Lst w own (tg i 1) q qe s.queue
 lcm:Lst w own (tg i 2) cm ce s.came
 lo:Lst w own (tg i 3) o oe s.out
 lev:w.ownsRow 0 3 1 ev s.events.length (s.events.map fun n=>.int .i64 (n:Nat))
 owne:∀k,ev.ownBlock=some k→own k=tg i 4
 ctl:Ctl w
 XC:own 0=0
 Xp:∀k,w.heap.size≤k→own k=0
 cok:c.ok
 sok:s.fit c
def Stn (w:World)(own:Nat→Nat)(i b:Nat)(c:Cfg)(s:St)(cl:Bool):Prop:=∃ch q cm o ev qe ce oe,SAt w own i b c s cl ch q cm o ev qe ce oe
structure Upd (i:Nat)(own own':Nat→Nat)(w w':World):Prop where
 keeps:Xb (fun k=>∃p,p<5∧own k=tg i p) w w'
 same:∀k,k<w.heap.size→own' k=own k
theorem Upd.refl (i:Nat)(own:Nat→Nat)(w:World):Upd i own own w w:=⟨Xb.refl _ _,fun _ _=>rfl⟩
theorem Upd.trans {i:Nat}{o1 o2 o3:Nat→Nat}{a b c:World}(h:Upd i o1 o2 a b)(k:Upd i o2 o3 b c):Upd i o1 o3 a c:=by
 refine⟨⟨k.keeps.os.trans h.keeps.os,k.keeps.tape.trans h.keeps.tape,k.keeps.output.trans h.keeps.output,Nat.le_trans h.keeps.size k.keeps.size,fun j hj hx=> ?_⟩,fun j hj=>(k.same j (Nat.lt_of_lt_of_le hj h.keeps.size)).trans (h.same j hj)⟩;have h1:=h.keeps.block j hj hx;refine(k.keeps.block j (Nat.lt_of_lt_of_le hj h.keeps.size) ?_).trans h1;rintro⟨p,hp,e⟩;exact hx ⟨p,hp,(h.same j hj).symm.trans e⟩
theorem Ctl.keeps {X:Nat→Prop}{w w':World}(h:Ctl w)(hk:Xb X w w')(h0:0<w.heap.size)(hx:¬X 0):Ctl w':=
 fun i hi=>by rw[hk.cell (p:=⟨0,i,none⟩) h0 hx];exact h i hi
section
variable {w w':World}{own own':Nat→Nat}{i b:Nat}{c:Cfg}{s:St}{cl:Bool}{ch:Nat}{q cm o ev:Value}{qe ce oe:List Value}
theorem SAt.lt (h:SAt w own i b c s cl ch q cm o ev qe ce oe):b<w.heap.size:=(Array.getElem?_eq_some_iff.1 h.head).1
theorem SAt.pos (h:SAt w own i b c s cl ch q cm o ev qe ce oe):0<w.heap.size:=Nat.lt_of_le_of_lt (Nat.zero_le _) h.lt
theorem SAt.cell (h:SAt w own i b c s cl ch q cm o ev qe ce oe)(j:Nat){v:Value}(hj:(Zm c s ch q cm o ev)[j]?=some v):w.cell? ⟨b,j,none⟩=some v:=by
 rw[Lib.cell_of_heap h.head];exact hj
theorem SAt.fz (h:SAt w own i b c s cl ch q cm o ev qe ce oe)(j:Nat):w.frozen? ⟨b,j,none⟩=false:=Lib.frozen_of_heap h.head j
theorem SAt.c_m (h:SAt w own i b c s cl ch q cm o ev qe ce oe):w.cell? ⟨b,0,none⟩=some (.int .i64 c.m):=h.cell 0 rfl
theorem SAt.Xo8 (h:SAt w own i b c s cl ch q cm o ev qe ce oe):w.cell? ⟨b,1,none⟩=some (.int .i64 c.win):=h.cell 1 rfl
theorem SAt.Xi3 (h:SAt w own i b c s cl ch q cm o ev qe ce oe):w.cell? ⟨b,2,none⟩=some (.int .i64 c.tim):=h.cell 2 rfl
theorem SAt.Xo7 (h:SAt w own i b c s cl ch q cm o ev qe ce oe):w.cell? ⟨b,3,none⟩=some (.int .i64 c.tri):=h.cell 3 rfl
theorem SAt.XoH (h:SAt w own i b c s cl ch q cm o ev qe ce oe):w.cell? ⟨b,4,none⟩=some (.int .i64 c.room):=h.cell 4 rfl
theorem SAt.Xf2 (h:SAt w own i b c s cl ch q cm o ev qe ce oe):w.cell? ⟨b,5,none⟩=some (.int .i64 c.addr):=h.cell 5 rfl
theorem SAt.Xmx (h:SAt w own i b c s cl ch q cm o ev qe ce oe):w.cell? ⟨b,6,none⟩=some (.chan (some ch)):=h.cell 6 rfl
theorem SAt.Qp (h:SAt w own i b c s cl ch q cm o ev qe ce oe):w.cell? ⟨b,7,none⟩=some (.int .i64 s.state):=h.cell 7 rfl
theorem SAt.Xas (h:SAt w own i b c s cl ch q cm o ev qe ce oe):w.cell? ⟨b,8,none⟩=some (.int .i64 s.vs):=h.cell 8 rfl
theorem SAt.Xi4 (h:SAt w own i b c s cl ch q cm o ev qe ce oe):w.cell? ⟨b,9,none⟩=some (.int .i64 s.va):=h.cell 9 rfl
theorem SAt.Xce (h:SAt w own i b c s cl ch q cm o ev qe ce oe):w.cell? ⟨b,10,none⟩=some (.int .i64 s.vr):=h.cell 10 rfl
theorem SAt.Xf4 (h:SAt w own i b c s cl ch q cm o ev qe ce oe):w.cell? ⟨b,11,none⟩=some (.int .i64 s.vm):=h.cell 11 rfl
theorem SAt.c_q (h:SAt w own i b c s cl ch q cm o ev qe ce oe):w.cell? ⟨b,12,none⟩=some (q):=h.cell 12 rfl
theorem SAt.J7 (h:SAt w own i b c s cl ch q cm o ev qe ce oe):w.cell? ⟨b,13,none⟩=some (.int .i64 s.timer):=h.cell 13 rfl
theorem SAt.Xbp (h:SAt w own i b c s cl ch q cm o ev qe ce oe):w.cell? ⟨b,14,none⟩=some (.int .i64 s.tries):=h.cell 14 rfl
theorem SAt.Zz (h:SAt w own i b c s cl ch q cm o ev qe ce oe):w.cell? ⟨b,15,none⟩=some (.bool s.Xh):=h.cell 15 rfl
theorem SAt.XaS (h:SAt w own i b c s cl ch q cm o ev qe ce oe):w.cell? ⟨b,16,none⟩=some (.bool s.peer):=h.cell 16 rfl
theorem SAt.XdB (h:SAt w own i b c s cl ch q cm o ev qe ce oe):w.cell? ⟨b,17,none⟩=some (.bool s.Xu):=h.cell 17 rfl
theorem SAt.Xf3 (h:SAt w own i b c s cl ch q cm o ev qe ce oe):w.cell? ⟨b,18,none⟩=some (.bool s.busy):=h.cell 18 rfl
theorem SAt.Xi2 (h:SAt w own i b c s cl ch q cm o ev qe ce oe):w.cell? ⟨b,19,none⟩=some (cm):=h.cell 19 rfl
theorem SAt.c_o (h:SAt w own i b c s cl ch q cm o ev qe ce oe):w.cell? ⟨b,20,none⟩=some (o):=h.cell 20 rfl
theorem SAt.XoG (h:SAt w own i b c s cl ch q cm o ev qe ce oe):w.cell? ⟨b,21,none⟩=some (ev):=h.cell 21 rfl
theorem SAt.wrote (h:SAt w own i b c s cl ch q cm o ev qe ce oe){s':St}{w':World}(hk:Xb (· =b) w w')(hh:w'.heap[b]?=some (.cells (Zm c s' ch q cm o ev) 135 (0,0)))
  (e1:s'.queue=s.queue) (e2:s'.came=s.came) (e3:s'.out=s.out) (e4:s'.events=s.events) (hok:s'.fit c):SAt w' own i b c s' cl ch q cm o ev qe ce oe:=by
 have hne:∀p,p≠0→p<5→∀k,k=b→own k≠tg i p:=fun p hp hp5 k hk=>by rw[hk,h.ownb];exact Xz (by omega) hp5 (.inr (fun e=>hp e.symm))
 have hchb:ch≠b:=fun e=>by have:=h.head;rw[← e,h.chan]at this;simp at this
 refine⟨hh,h.ownb,by rw[hk.block ch (Array.getElem?_eq_some_iff.1 h.chan).1 hchb];exact h.chan,h.ownc,?_,?_,?_,?_,h.owne,h.ctl.keeps hk h.pos (fun e=> ?_),h.XC,fun k hs=>h.Xp k (Nat.le_trans hk.size hs),h.cok,hok⟩
 ·rw[e1];exact h.lq.keeps hk (hne 1 (by omega) (by omega)) (fun _ _=>rfl)
 ·rw[e2];exact h.lcm.keeps hk (hne 2 (by omega) (by omega)) (fun _ _=>rfl)
 ·rw[e3];exact h.lo.keeps hk (hne 3 (by omega) (by omega)) (fun _ _=>rfl)
 ·rw[e4];exact Xc h.lev hk (fun k hb hX=>hne 4 (by omega) (by omega) k hX (h.owne k hb))
 ·have:=h.ownb;rw[← e,h.XC]at this;exact Xq _ _ this.symm
theorem SAt.upd (h:SAt w own i b c s cl ch q cm o ev qe ce oe){w':World}(hk:Xb (· =b) w w'):Upd i own own w w':=
 ⟨hk.mono (fun k hk=>⟨0,by omega,by rw[hk];exact h.ownb⟩),fun _ _=>rfl⟩
theorem SAt.others (h:SAt w own i b c s cl ch q cm o ev qe ce oe){X:Nat→Prop}(hk:Xb X w w')(hx:∀k,X k→own k≠0→∀p,p<5→own k≠tg i p)(hx0:¬X 0)(ho:∀k,k<w.heap.size→own' k=own k)(hn:∀k,w'.heap.size≤k→own' k=0):SAt w' own' i b c s cl ch q cm o ev qe ce oe:=by
 have hx':∀p,p<5→∀k,X k→own k≠tg i p:=fun p hp k hX e=>hx k hX (by rw[e];exact Xq _ _) p hp e
 have hlc:=(Array.getElem?_eq_some_iff.1 h.chan).1;refine⟨?_,(ho b h.lt).trans h.ownb,?_,(ho ch hlc).trans h.ownc,h.lq.keeps hk (hx' 1 (by omega)) ho,h.lcm.keeps hk (hx' 2 (by omega)) ho,h.lo.keeps hk (hx' 3 (by omega)) ho,Xc h.lev hk (fun k hb hX=>hx' 4 (by omega) k hX (h.owne k hb)),fun k hb=>(ho k (World.ownsRow.lt h.lev k hb).2).trans (h.owne k hb),h.ctl.keeps hk h.pos hx0,(ho 0 h.pos).trans h.XC,hn,h.cok,h.sok⟩
 ·rw[hk.block b h.lt (fun hX=>hx' 0 (by omega) b hX h.ownb)];exact h.head
 ·rw[hk.block ch hlc (fun hX=>hx' 0 (by omega) ch hX h.ownc)];exact h.chan
theorem SAt.later (h:SAt w own i b c s cl ch q cm o ev qe ce oe)(hb:Below w.heap.size w w'):SAt w' own i b c s cl ch q cm o ev qe ce oe:=
 h.others (X:=fun _=>False) (Xb.of hb) (fun _ hX=>absurd hX id) id (fun _ _=>rfl) (fun k hs=>h.Xp k (Nat.le_trans hb.size hs))
end
def Did (i b:Nat)(c:Cfg)(s':St)(cl:Bool)(own:Nat→Nat)(w:World)(e:Ending)(w':World):Prop:=
 e=.returned (.tuple #[])∧∃own',Stn w' own' i b c s' cl∧Upd i own own' w w'
theorem Upd.of {i:Nat}{own own1:Nat→Nat}{w W w1:World}(hb:Below w.heap.size w W)(h:Upd i own own1 W w1):Upd i own own1 w w1:=
 (show Upd i own own w W from⟨Xb.of hb,fun _ _=>rfl⟩).trans h
structure Bk where
 bs:Value
 fs:Value
 ls:Value
 is:Value
 eb:List Value
 ef:List Value
 el:List Value
 ei:List Value
 mg:Nat→Nat
def Bk.blk (b:Bk)(k:Nat):Prop:=
 b.bs.ownBlock=some k∨b.fs.ownBlock=some k∨b.ls.ownBlock=some k∨b.is.ownBlock=some k∨
  (∃ v,v∈b.eb∧v.ownBlock=some k)∨(∃ v,v∈b.ef∧v.ownBlock=some k)∨(∃ v,v∈b.el∧v.ownBlock=some k)∨(∃ v,v∈b.ei∧v.ownBlock=some k)∨∃i,i<b.el.length∧b.mg i=k
def ZJ:Bk:=⟨.slice none 0 0,.slice none 0 0,.slice none 0 0,.slice none 0 0,[],[],[],[],fun _=>0⟩
theorem XdA (k:Nat):¬ZJ.blk k:=by
 unfold Bk.blk ZJ;simp[Value.ownBlock]
def mkF (i:Nat):List Value:=[.int .i64 (-1000 -(i:Int) / 4),.slice none 0 0]
def mkI (i:Nat):List Value:=[.int .i64 (-1000 -(i:Int) / 4)]
def mkL (g:Nat):List Value:=[.slice (some ⟨g,0,none⟩) 2 2]
theorem Xm0 {n:Nat}(h:n%4=0)(j:Nat)(hj:j<4):mkF (n+j)=mkF n:=by
 unfold mkF;have:((n+j:Nat):Int) / 4=(n:Int) / 4:=by omega
 rw[this]
theorem Xm1 {n:Nat}(h:n%4=0)(j:Nat)(hj:j<4):mkI (n+j)=mkI n:=by
 unfold mkI;have:((n+j:Nat):Int) / 4=(n:Int) / 4:=by omega
 rw[this]
def Z9 (w:World)(g i:Nat):Prop:=w.heap[g]?=some (.cells #[.int .u8 ((i / 4%256:Nat):Int),.int .u8 ((i / 1024%256:Nat):Int)] 5 (0,0))
structure YY (w:World)(wb:Nat)(hs ss:Value)(b:Bk):Prop where
 head:WAt w wb #[hs,ss,b.bs,b.fs,b.ls,b.is]
 rb:w.ownsRow 0 28 1 b.bs b.eb.length b.eb
 rf:w.ownsRow 0 63 1 b.fs b.ef.length b.ef
 rl:w.ownsRow 0 38 1 b.ls b.el.length b.el
 ri:w.ownsRow 0 62 1 b.is b.ei.length b.ei
 mb:∀i v,b.eb[i]?=some v→∃k,YB w 5 [.int .u8 (Ja i:Nat)] v k∧k≤1099511627776
 mf:∀i v,b.ef[i]?=some v→∃k,YB w 65 (mkF i) v k∧k≤1099511627776
 ml:∀i v,b.el[i]?=some v→∃k,YB w 28 (mkL (b.mg i)) v k∧k≤1099511627776
 mi:∀i v,b.ei[i]?=some v→∃k,YB w 3 (mkI i) v k∧k≤1099511627776
 two:∀i,i<b.el.length→Z9 w (b.mg i) i
 fb:b.eb.length%4=0
 ff:b.ef.length%4=0
 fl:b.el.length%4=0
 fi:b.ei.length%4=0
 apart:∀v∈b.el,∀k,v.ownBlock=some k→b.bs.ownBlock≠some k
theorem Xl {α:Type}{l:List α}{i:Nat}{v:α}(h:l[i]?=some v):v∈l:=List.mem_of_getElem? h
section
variable {w:World}{wb:Nat}{hs ss:Value}{b:Bk}
def ZW (t:TypeId):Prop:=t=5∨t=28∨t=38∨t=3∨t=62∨t=65∨t=63
theorem YY.ty (h:YY w wb hs ss b){k:Nat}(hk:b.blk k):∃c t,w.heap[k]?=some (.cells c t (0,0))∧ZW t:=by
 rcases hk with hk|hk|hk|hk|⟨v,hv,hk⟩|⟨v,hv,hk⟩|⟨v,hv,hk⟩|⟨v,hv,hk⟩|⟨i,hi,rfl⟩
 ·obtain ⟨c,hc⟩:=Xd h.rb hk;exact⟨c,_,hc,by unfold ZW;simp⟩
 ·obtain ⟨c,hc⟩:=Xd h.rf hk;exact⟨c,_,hc,by unfold ZW;simp⟩
 ·obtain ⟨c,hc⟩:=Xd h.rl hk;exact⟨c,_,hc,by unfold ZW;simp⟩
 ·obtain ⟨c,hc⟩:=Xd h.ri hk;exact⟨c,_,hc,by unfold ZW;simp⟩
 ·obtain ⟨i,hi⟩:=List.getElem?_of_mem hv;obtain⟨n,hm,_⟩:=h.mb i v hi;obtain⟨c,hc⟩:=Xd hm hk;exact⟨c,_,hc,by unfold ZW;simp⟩
 ·obtain ⟨i,hi⟩:=List.getElem?_of_mem hv;obtain⟨n,hm,_⟩:=h.mf i v hi;obtain⟨c,hc⟩:=Xd hm hk;exact⟨c,_,hc,by unfold ZW;simp⟩
 ·obtain ⟨i,hi⟩:=List.getElem?_of_mem hv;obtain⟨n,hm,_⟩:=h.ml i v hi;obtain⟨c,hc⟩:=Xd hm hk;exact⟨c,_,hc,by unfold ZW;simp⟩
 ·obtain ⟨i,hi⟩:=List.getElem?_of_mem hv;obtain⟨n,hm,_⟩:=h.mi i v hi;obtain⟨c,hc⟩:=Xd hm hk;exact⟨c,_,hc,by unfold ZW;simp⟩
 ·exact ⟨_,_,h.two i hi,by unfold ZW;simp⟩
theorem YY.lt (h:YY w wb hs ss b){k:Nat}(hk:b.blk k):k<w.heap.size:=by
 obtain⟨c,t,hc,_⟩:=h.ty hk;exact(Array.getElem?_eq_some_iff.1 hc).1
theorem YY.Xbt (h:YY w wb hs ss b):¬b.blk wb:=by
 intro hk;obtain⟨c,t,hc,ht⟩:=h.ty hk;have h1:=h.head;unfold WAt at h1;rw[hc]at h1;simp only[Option.some.injEq,Obj.cells.injEq]at h1;have h2:=h1.2.1;unfold ZW at ht;rw[h2]at ht;revert ht
 decide
theorem YY.turned {X:Nat→Prop}{w':World}(h:YY w wb hs ss b)(hk:Xb X w w')(h1:¬X wb)(h2:∀k,b.blk k→¬X k):YY w' wb hs ss b:=by
 refine⟨h.head.keeps hk h1,Xc h.rb hk fun k e=>h2 k (.inl e),Xc h.rf hk fun k e=>h2 k (.inr (.inl e)),Xc h.rl hk fun k e=>h2 k (.inr (.inr (.inl e))),Xc h.ri hk fun k e=>h2 k (.inr (.inr (.inr (.inl e)))),?_,?_,?_,?_,?_,h.fb,h.ff,h.fl,h.fi,h.apart⟩
 ·intro i v hv;obtain⟨n,hm,hn⟩:=h.mb i v hv;exact⟨n,Xc hm hk fun k e=>h2 k (.inr (.inr (.inr (.inr (.inl ⟨v,Xl hv,e⟩))))),hn⟩
 ·intro i v hv;obtain⟨n,hm,hn⟩:=h.mf i v hv;exact⟨n,Xc hm hk fun k e=>h2 k (.inr (.inr (.inr (.inr (.inr (.inl ⟨v,Xl hv,e⟩)))))),hn⟩
 ·intro i v hv;obtain⟨n,hm,hn⟩:=h.ml i v hv;exact⟨n,Xc hm hk fun k e=>h2 k (.inr (.inr (.inr (.inr (.inr (.inr (.inl ⟨v,Xl hv,e⟩))))))),hn⟩
 ·intro i v hv;obtain⟨n,hm,hn⟩:=h.mi i v hv;exact⟨n,Xc hm hk fun k e=>h2 k (.inr (.inr (.inr (.inr (.inr (.inr (.inr (.inl ⟨v,Xl hv,e⟩)))))))),hn⟩
 ·intro i hi;have ht:=h.two i hi;unfold Z9 at ht⊢;rw[hk.block _ (Array.getElem?_eq_some_iff.1 ht).1 (h2 _ (.inr (.inr (.inr (.inr (.inr (.inr (.inr (.inr ⟨i,hi,rfl⟩)))))))))];exact ht
theorem YY.later {w':World}(h:YY w wb hs ss b)(hb:Below w.heap.size w w'):YY w' wb hs ss b:=
 h.turned (X:=fun _=>False) (Xb.of hb) id (fun _ _=>id)
theorem YY.heads {hs' ss':Value}{w':World}(h:YY w wb hs ss b)(hk:Xb (· =wb) w w')(hd:WAt w' wb #[hs',ss',b.bs,b.fs,b.ls,b.is]):YY w' wb hs' ss' b:=by
 have hne:∀k,b.blk k→¬k=wb:=fun k hb e=>h.Xbt (e▸hb)
 refine⟨hd,Xc h.rb hk fun k e=>hne k (.inl e),Xc h.rf hk fun k e=>hne k (.inr (.inl e)),Xc h.rl hk fun k e=>hne k (.inr (.inr (.inl e))),Xc h.ri hk fun k e=>hne k (.inr (.inr (.inr (.inl e)))),?_,?_,?_,?_,?_,h.fb,h.ff,h.fl,h.fi,h.apart⟩
 ·intro i v hv;obtain⟨n,hm,hn⟩:=h.mb i v hv;exact⟨n,Xc hm hk fun k e=>hne k (.inr (.inr (.inr (.inr (.inl ⟨v,Xl hv,e⟩))))),hn⟩
 ·intro i v hv;obtain⟨n,hm,hn⟩:=h.mf i v hv;exact⟨n,Xc hm hk fun k e=>hne k (.inr (.inr (.inr (.inr (.inr (.inl ⟨v,Xl hv,e⟩)))))),hn⟩
 ·intro i v hv;obtain⟨n,hm,hn⟩:=h.ml i v hv;exact⟨n,Xc hm hk fun k e=>hne k (.inr (.inr (.inr (.inr (.inr (.inr (.inl ⟨v,Xl hv,e⟩))))))),hn⟩
 ·intro i v hv;obtain⟨n,hm,hn⟩:=h.mi i v hv;exact⟨n,Xc hm hk fun k e=>hne k (.inr (.inr (.inr (.inr (.inr (.inr (.inr (.inl ⟨v,Xl hv,e⟩)))))))),hn⟩
 ·intro i hi;have ht:=h.two i hi;unfold Z9 at ht⊢;rw[hk.block _ (Array.getElem?_eq_some_iff.1 ht).1 (hne _ (.inr (.inr (.inr (.inr (.inr (.inr (.inr (.inr ⟨i,hi,rfl⟩)))))))))];exact ht
end
def QF (wb:Nat)(r v:Value)(k:Nat):Prop:=k=wb∨some k=r.ownBlock∨some k=v.ownBlock
theorem XbL {α:Type}{l:List α}{a b c d u:α}{i:Nat}(h:(l++[a,b,c,d])[i]?=some u):(i<l.length∧l[i]?=some u)∨∃j,j<4∧i=l.length+j∧ [a,b,c,d][j]?=some u:=by
 by_cases hlt:i<l.length
 ·rw[List.getElem?_append_left hlt]at h;exact .inl ⟨hlt,h⟩
 ·rw[List.getElem?_append_right (by omega)]at h;refine .inr ⟨i-l.length,?_,by omega,h⟩;have:=(List.getElem?_eq_some_iff.1 h).1;simpa using this
theorem XaV {α:Type}{l:List α}{a b c d u:α}(h:u∈l++[a,b,c,d]):u∈l∨u=a∨u=b∨u=c∨u=d:=by
 rcases List.mem_append.1 h with h|h
 ·exact .inl h
 ·simp at h;exact .inr h
theorem Xdg {w:World}{wb:Nat}{hs ss v:Value}{b:Bk}{xs:List Value}{n:Nat}(h:YY w wb hs ss b)(hv:w.ownsRow 0 5 1 v n xs)(hvb:∀k,v.ownBlock=some k→¬b.blk k)(hN:b.eb.length≤4000000000000)(hn:n≤1048576):
  Calls Tryz.prog 34 #[.pointer (some ⟨wb,2,none⟩),v] w fun e w'=>e=.returned (.tuple #[])∧∃b':Bk,YY w' wb hs ss b'∧b'.eb.length=b.eb.length+4∧b'.fs=b.fs∧b'.ls=b.ls∧b'.is=b.is∧b'.ef=b.ef∧b'.el=b.el∧b'.ei=b.ei∧b'.mg=b.mg∧Xb (QF wb b.bs v) w w'∧(∀ k,b'.blk k→b.blk k∨v.ownBlock=some k∨w.heap.size≤k):=by
 refine(Xe8 wb (QF wb b.bs v) (.inl rfl) hs ss b.bs b.fs b.ls b.is v b.eb xs n w h.head h.rb hv (fun k hk=>.inl (.inr (.inl hk.symm))) (fun k hk=>.inl (.inr (.inr hk.symm))) hN (by omega)).mono ?_;rintro e w' ⟨rfl,bs',v1,v2,v3,K⟩
 -- which block the row has now
 have hbs:∀k,bs'.ownBlock=some k→b.bs.ownBlock=some k∨w.heap.size≤k:=by
  intro k hk;rcases K.mineB k hk with(hx|hx|hx)|hx
  ·exfalso
   obtain⟨c,hc⟩:=Xd K.row hk;have h3:=K.head;unfold WAt at h3;rw[← hx,hc]at h3;simp at h3
  ·exact .inl hx.symm
  ·exfalso
   obtain⟨c,hc⟩:=Xd K.row hk;obtain⟨c2,hc2⟩:=Xd (K.marks (v,n) (by simp)) (k:=k) hx.symm;rw[hc]at hc2;simp at hc2
  ·exact .inr hx
 have hmk:∀u:Value×Nat,u∈ [(v,n),(v1,n+1),(v2,n+2),(v3,n+3)]→∀k,u.1.ownBlock=some k→b.blk k∨v.ownBlock=some k∨w.heap.size≤k:=by
  intro u hu k hk;rcases K.mineU u hu k hk with(hx|hx|hx)|hx
  ·exfalso
   obtain⟨c,hc⟩:=Xd (K.marks u hu) hk;have h3:=K.head;unfold WAt at h3;rw[← hx,hc]at h3;simp at h3
  ·exact .inl (.inl hx.symm)
  ·exact .inr (.inl hx.symm)
  ·exact .inr (.inr hx)
 -- what is not turned
 have hno:∀k,b.blk k→b.bs.ownBlock≠some k→¬QF wb b.bs v k:=by
  rintro k hk hne (rfl|hx|hx)
  ·exact h.Xbt hk
  ·exact hne hx.symm
  ·exact hvb k hx.symm hk
 have hty:∀ {k:Nat} {c:Array Value} {t:TypeId},w.heap[k]?=some (.cells c t (0,0))→t≠28→b.bs.ownBlock≠some k:=by
  intro k c t hc ht hk;obtain⟨c2,hc2⟩:=Xd h.rb hk;rw[hc]at hc2;simp at hc2;exact ht hc2.2
 have hrow:∀ {k:Nat} {t:TypeId} {sz m:Nat} {u:Value} {ys:List Value},w.ownsRow 0 t sz u m ys→u.ownBlock=some k→t≠28→b.bs.ownBlock≠some k:=by
  intro k t sz m u ys hr hk ht;obtain⟨c,hc⟩:=Xd hr hk;exact hty hc ht
 refine⟨rfl,⟨bs',b.fs,b.ls,b.is,b.eb++[v,v1,v2,v3],b.ef,b.el,b.ei,b.mg⟩,⟨K.head,K.row,?_,?_,?_,?_,?_,?_,?_,?_,?_,h.ff,h.fl,h.fi,?_⟩,by simp,rfl,rfl,rfl,rfl,rfl,rfl,rfl,K.keeps,?_⟩
 ·exact Xc h.rf K.keeps fun k e=>hno k (.inr (.inl e)) (hrow h.rf e (by decide))
 ·exact Xc h.rl K.keeps fun k e=>hno k (.inr (.inr (.inl e))) (hrow h.rl e (by decide))
 ·exact Xc h.ri K.keeps fun k e=>hno k (.inr (.inr (.inr (.inl e)))) (hrow h.ri e (by decide))
 ·intro i u hi;rcases XbL hi with⟨hlt,hi⟩|⟨j,hj,rfl,hi⟩
  ·obtain ⟨m,hm,hm2⟩:=h.mb i u hi;exact⟨m,Xc hm K.keeps fun k e=>hno k (.inr (.inr (.inr (.inr (.inl ⟨u,Xl hi,e⟩))))) (hrow hm e (by decide)),hm2⟩
  ·rw[Xfd h.fb j hj];have hc:j=0∨j=1∨j=2∨j=3:=by omega
   rcases hc with rfl|rfl|rfl|rfl <;>(simp at hi;subst hi)
   ·exact ⟨n,K.marks (v,n) (by simp),by omega⟩
   ·exact ⟨n+1,K.marks (v1,n+1) (by simp),by omega⟩
   ·exact ⟨n+2,K.marks (v2,n+2) (by simp),by omega⟩
   ·exact ⟨n+3,K.marks (v3,n+3) (by simp),by omega⟩
 ·intro i u hi;obtain⟨m,hm,hm2⟩:=h.mf i u hi;exact⟨m,Xc hm K.keeps fun k e=>hno k (.inr (.inr (.inr (.inr (.inr (.inl ⟨u,Xl hi,e⟩)))))) (hrow hm e (by decide)),hm2⟩
 ·intro i u hi;obtain⟨m,hm,hm2⟩:=h.ml i u hi;exact⟨m,Xc hm K.keeps fun k e=>hno k (.inr (.inr (.inr (.inr (.inr (.inr (.inl ⟨u,Xl hi,e⟩))))))) (h.apart u (Xl hi) k e),hm2⟩
 ·intro i u hi;obtain⟨m,hm,hm2⟩:=h.mi i u hi;exact⟨m,Xc hm K.keeps fun k e=>hno k (.inr (.inr (.inr (.inr (.inr (.inr (.inr (.inl ⟨u,Xl hi,e⟩)))))))) (hrow hm e (by decide)),hm2⟩
 ·intro i hi;have ht:=h.two i hi;unfold Z9 at ht⊢;rw[K.keeps.block _ (Array.getElem?_eq_some_iff.1 ht).1 (hno _ (.inr (.inr (.inr (.inr (.inr (.inr (.inr (.inr ⟨i,hi,rfl⟩)))))))) (hty ht (by decide)))];exact ht
 ·have:=h.fb;simp;omega
 ·intro u hu k hk hk2;rcases hbs k hk2 with hx|hx
  ·exact h.apart u hu k hk hx
  ·have:=h.lt (.inr (.inr (.inr (.inr (.inr (.inr (.inl ⟨u,hu,hk⟩)))))));omega
 ·intro k hk;rcases hk with hk|hk|hk|hk|⟨u,hu,hk⟩|hk|hk|hk|hk
  ·rcases hbs k hk with hx|hx
   ·exact .inl (.inl hx)
   ·exact .inr (.inr hx)
  ·exact .inl (.inr (.inl hk))
  ·exact .inl (.inr (.inr (.inl hk)))
  ·exact .inl (.inr (.inr (.inr (.inl hk))))
  ·rcases XaV hu with hu|rfl|rfl|rfl|rfl
   ·exact .inl (.inr (.inr (.inr (.inr (.inl ⟨u,hu,hk⟩)))))
   ·exact hmk (u,n) (by simp) k hk
   ·exact hmk (u,n+1) (by simp) k hk
   ·exact hmk (u,n+2) (by simp) k hk
   ·exact hmk (u,n+3) (by simp) k hk
  ·exact .inl (.inr (.inr (.inr (.inr (.inr (.inl hk))))))
  ·exact .inl (.inr (.inr (.inr (.inr (.inr (.inr (.inl hk)))))))
  ·exact .inl (.inr (.inr (.inr (.inr (.inr (.inr (.inr (.inl hk))))))))
  ·exact .inl (.inr (.inr (.inr (.inr (.inr (.inr (.inr (.inr hk))))))))
theorem XeA (k:Nat):(k:Int).tdiv 4=((k / 4:Nat):Int):=by
 rw[Int.tdiv_eq_ediv_of_nonneg (by omega)];omega
theorem XiO (k:Nat):(k:Int).tdiv 1024=((k / 1024:Nat):Int):=by
 rw[Int.tdiv_eq_ediv_of_nonneg (by omega)];omega
theorem Xng (a b:Value)(n q:Nat)(h:q<n):(XG [a,b] n)[q*2]?=some a∧(XG [a,b] n)[q*2+1]?=some b:=by
 induction n generalizing q with
 |zero=>omega
 |succ n ih=>
  have e:XG [a,b] (n+1)=a::b::XG [a,b] n:=by simp[XG,List.replicate_succ]
  rw[e];cases q with
  |zero=>simp
  |succ q=>
   have:=ih q (by omega);rw[show(q+1)*2=q*2+1+1 by omega];simpa using this
theorem Xek (w:World):(binOp .neq 28 (.slice none 0 0) (.slice none 0 0)).run Tryz.prog w=.ok (.bool false) w:=by kernel_rfl
theorem XmV (wb:Nat)(hs ss:Value)(b:Bk)(w:World)(h:YY w wb hs ss b)(hb:b.eb.length≤4000000000000)(hf:b.ef.length≤1099511627776)(hl:b.el.length≤1099511627776)(hi:b.ei.length≤1099511627776):
  Calls Tryz.prog 13 #[.pointer (some ⟨wb,2,none⟩)] w fun e w'=>e=.returned (.bool true)∧w'=w:=by
 have c2:=h.head.cell 2 _ rfl;have c3:=h.head.cell 3 _ rfl;have c4:=h.head.cell 4 _ rfl;have c5:=h.head.cell 5 _ rfl;obtain⟨bp,bc,e1,hbp⟩:=Xf h.rb;obtain⟨fp,fc,e2,hfp⟩:=Xf h.rf;obtain⟨lp,lc,e3,hlp⟩:=Xf h.rl;obtain⟨ip,ic,e4,hip⟩:=Xf h.ri;rw[e1]at c2;rw[e2]at c3;rw[e3]at c4;rw[e4]at c5;have HRB:=hide (e1▸h.rb);have HRF:=hide (e2▸h.rf);have HRL:=hide (e3▸h.rl);have HRI:=hide (e4▸h.ri);have HMB:=hide h.mb;have HMF:=hide h.mf;have HML:=hide h.ml;have HMI:=hide h.mi;have HT:=hide h.two;have HMK:=fun i hi=>Xdi i w hi
 clear h e1 e2 e3 e4;generalize b.eb=eb at*;generalize b.ef=ef at*;generalize b.el=el at*;generalize b.ei=ei at*;go_enter Tryz.func13,Tryz.ntmps13
 go_wp2_with fail
 go_loop [3] (fun i=>∃k:Nat,k≤eb.length∧i=.int .i64 k) (fun i=>eb.length -(intOf i).toNat)
 case atStart=>exact⟨0,Nat.zero_le _,rfl⟩
 case round=>
  obtain⟨k,hk,rfl⟩:=hrel;by_cases hlt:k<eb.length
  ·obtain ⟨g,rfl⟩:=hbp (by omega);obtain⟨v,hv⟩:∃v,eb[k]?=some v:=⟨_,List.getElem?_eq_getElem hlt⟩;obtain⟨n,hmk,hn⟩:=Xa HMB k v hv;have cE:=(Xa HRB).cellAt k (by omega);rw[hv]at cE;obtain⟨p,cp,rfl,hpg⟩:=Xf hmk;have HK:=hide hmk;clear hmk;have hmk:=HMK k (by unfold maxLen;omega);generalize hmkN:Ja k=mk at hmk HK;go_wp2_with fail
   refine hmk.mono ?_;rintro e W1 ⟨rfl,rfl⟩;go_wp2
   go_loop [5] (fun j=>∃q:Nat,q≤n∧j=.int .i64 q) (fun j=>n -(intOf j).toNat)
   case atStart=>exact⟨0,Nat.zero_le _,rfl⟩
   case round=>
    obtain⟨q,hq,rfl⟩:=hrel;by_cases hlq:q<n
    ·obtain ⟨g2,rfl⟩:=hpg (by omega);have cU:=World.ownsRow.cellAt (Xa HK) q (by simp;omega);have e2:(XG [Value.int .u8 (mk:Nat)] n)[q]?=some (.int .u8 (mk:Nat)):=by simp[XG,hlq]
     rw[e2]at cU;go_wp2
     go_round
     case rel=>exact⟨q+1,hlq,by go_num⟩
     case measure=>simp[intOf];omega
    ·have hqn:q=n:=by omega
     subst hqn;go_wp2
     go_round
     case rel=>exact⟨k+1,hlt,by go_num⟩
     case measure=>simp[intOf];omega
  ·have hkn:k=eb.length:=by omega
   subst hkn;clear HRB HMB HMK hbp;go_wp2
   go_loop [6] (fun i=>∃k:Nat,k≤ei.length∧i=.int .i64 k) (fun i=>ei.length -(intOf i).toNat)
   case atStart=>exact⟨0,Nat.zero_le _,rfl⟩
   case round=>
    obtain⟨k,hk,rfl⟩:=hrel;by_cases hlt:k<ei.length
    ·obtain ⟨g,rfl⟩:=hip (by omega);obtain⟨v,hv⟩:∃v,ei[k]?=some v:=⟨_,List.getElem?_eq_getElem hlt⟩;obtain⟨n,hmk,hn⟩:=Xa HMI k v hv;have cE:=(Xa HRI).cellAt k (by omega);rw[hv]at cE;obtain⟨p,cp,rfl,hpg⟩:=Xf hmk;have HK:=hide hmk;clear hmk;have hq4:=XeA k;go_wp2
     go_loop [7] (fun j=>∃q:Nat,q≤n∧j=.int .i64 q) (fun j=>n -(intOf j).toNat)
     case atStart=>exact⟨0,Nat.zero_le _,rfl⟩
     case round=>
      obtain⟨q,hq,rfl⟩:=hrel;by_cases hlq:q<n
      ·obtain ⟨g2,rfl⟩:=hpg (by omega);have cU:=World.ownsRow.cellAt (Xa HK) q (by simp[mkI];omega);have e2:(XG (mkI k) n)[q]?=some (.int .i64 (-1000 -(k:Int) / 4)):=by simp[XG,hlq,mkI]
       rw[e2]at cU;go_wp2
       go_round
       case rel=>exact⟨q+1,hlq,by go_num⟩
       case measure=>simp[intOf];omega
      ·have hqn:q=n:=by omega
       subst hqn;go_wp2
       go_round
       case rel=>exact⟨k+1,hlt,by go_num⟩
       case measure=>simp[intOf];omega
    ·have hkn:k=ei.length:=by omega
     subst hkn;clear HRI HMI hip;go_wp2
     go_loop [8] (fun i=>∃k:Nat,k≤ef.length∧i=.int .i64 k) (fun i=>ef.length -(intOf i).toNat)
     case atStart=>exact⟨0,Nat.zero_le _,rfl⟩
     case round=>
      obtain⟨k,hk,rfl⟩:=hrel;by_cases hlt:k<ef.length
      ·obtain ⟨g,rfl⟩:=hfp (by omega);obtain⟨v,hv⟩:∃v,ef[k]?=some v:=⟨_,List.getElem?_eq_getElem hlt⟩;obtain⟨n,hmk,hn⟩:=Xa HMF k v hv;have cE:=(Xa HRF).cellAt k (by omega);rw[hv]at cE;obtain⟨p,cp,rfl,hpg⟩:=Xf hmk;have HK:=hide hmk;clear hmk;have hq4:=XeA k;go_wp2
       go_loop [9] (fun j=>∃q:Nat,q≤n∧j=.int .i64 q) (fun j=>n -(intOf j).toNat)
       case atStart=>exact⟨0,Nat.zero_le _,rfl⟩
       case round=>
        obtain⟨q,hq,rfl⟩:=hrel;by_cases hlq:q<n
        ·obtain ⟨g2,rfl⟩:=hpg (by omega);have e2:=Xng (.int .i64 (-1000 -(k:Int) / 4)) (.slice none 0 0) n q hlq;have cU:=World.ownsRow.cells (Xa HK) (g:=g2) rfl (q*2) _ e2.1;have cV:=World.ownsRow.cells (Xa HK) (g:=g2) rfl (q*2+1) _ e2.2;rw[Go.WideShapes.add_plain,Nat.zero_add]at cU cV;clear e2;have hnn:=Xek w;go_wp2
         go_round
         case rel=>exact⟨q+1,hlq,by go_num⟩
         case measure=>simp[intOf];omega
        ·have hqn:q=n:=by omega
         subst hqn;go_wp2
         go_round
         case rel=>exact⟨k+1,hlt,by go_num⟩
         case measure=>simp[intOf];omega
      ·have hkn:k=ef.length:=by omega
       subst hkn;clear HRF HMF hfp;go_wp2
       go_loop [10] (fun i=>∃k:Nat,k≤el.length∧i=.int .i64 k) (fun i=>el.length -(intOf i).toNat)
       case atStart=>exact⟨0,Nat.zero_le _,rfl⟩
       case round=>
        obtain⟨k,hk,rfl⟩:=hrel;by_cases hlt:k<el.length
        ·obtain ⟨g,rfl⟩:=hlp (by omega);obtain⟨v,hv⟩:∃v,el[k]?=some v:=⟨_,List.getElem?_eq_getElem hlt⟩;obtain⟨n,hmk,hn⟩:=Xa HML k v hv;have cE:=(Xa HRL).cellAt k (by omega);rw[hv]at cE;obtain⟨p,cp,rfl,hpg⟩:=Xf hmk;have HK:=hide hmk;clear hmk;have hT:=Xa HT k hlt;unfold Z9 at hT;have t0:w.cell? ⟨b.mg k,0,none⟩=some (.int .u8 ((k / 4%256:Nat):Int)):=by rw[Lib.cell_of_heap hT];rfl
         have t1:w.cell? ⟨b.mg k,1,none⟩=some (.int .u8 ((k / 1024%256:Nat):Int)):=by rw[Lib.cell_of_heap hT];rfl
         clear hT;generalize hgm:b.mg k=gm at*;have hq4:=XeA k;have hq5:=XiO k;go_wp2
         go_loop [11] (fun j=>∃q:Nat,q≤n∧j=.int .i64 q) (fun j=>n -(intOf j).toNat)
         case atStart=>exact⟨0,Nat.zero_le _,rfl⟩
         case round=>
          obtain⟨q,hq,rfl⟩:=hrel;by_cases hlq:q<n
          ·obtain ⟨g2,rfl⟩:=hpg (by omega);have cU:=World.ownsRow.cellAt (Xa HK) q (by simp[mkL];omega);have e2:(XG (mkL gm) n)[q]?=some (.slice (some ⟨gm,0,none⟩) 2 2):=by simp[XG,hlq,mkL]
           rw[e2]at cU;go_wp2
           go_round
           case rel=>exact⟨q+1,hlq,by go_num⟩
           case measure=>simp[intOf];omega
          ·have hqn:q=n:=by omega
           subst hqn;go_wp2
           go_round
           case rel=>exact⟨k+1,hlt,by go_num⟩
           case measure=>simp[intOf];omega
        ·have hkn:k=el.length:=by omega
         subst hkn;go_wp2
         exact bodyPost_ret (v:=.bool true) (by simp[results,Tryz.results13,go_sem]) rfl ⟨rfl,rfl⟩
end Go.Proofs.YtkalonhalhdlaaaGreatDoor
namespace Go.Proofs
open Go.Shelf
def Tryz.lays169_ren:Go.Shelf.Ren:=⟨fun|169=>67|n=>n,fun|70=>107|9=>9|0=>0|72=>109|37=>28|127=>144|3=>3|5=>5|n=>n,fun|n=>n⟩
theorem Tryz.lays169:Go.Proofs.Lays.n169 Tryz.prog Tryz.lays169_ren:={
 mixed:=by kernel_rfl
 f169:=Tryz.func67.trans (congrArg some (by kernel_rfl))
 t0:=Tryz.underlying0
 a0:=Tryz.isAgg0
 z0:=Tryz.sizeOf0
 v0:=Tryz.zeroValue0
 t3:=Tryz.underlying3
 a3:=Tryz.isAgg3
 z3:=Tryz.sizeOf3
 v3:=Tryz.zeroValue3
 t9:=Tryz.underlying9
 a9:=Tryz.isAgg9
 z9:=Tryz.sizeOf9
 v9:=Tryz.zeroValue9
 t37:=Tryz.underlying28
 a37:=Tryz.isAgg28
 z37:=Tryz.sizeOf28
 v37:=Tryz.zeroValue28
 t70:=Tryz.underlying107
 a70:=Tryz.isAgg107
 z70:=Tryz.sizeOf107
 v70:=Tryz.zeroValue107
 t72:=Tryz.underlying109
 a72:=Tryz.isAgg109
 z72:=Tryz.sizeOf109
 v72:=Tryz.zeroValue109
 t127:=Tryz.underlying144
 a127:=Tryz.isAgg144
 z127:=Tryz.sizeOf144
 v127:=Tryz.zeroValue144}
theorem Tryz.Builder_Extra_169:Builder.Extra Tryz.prog Tryz.lays169_ren:={
 sizeBuilder:=by kernel_rfl
 liesBuilder:=by kernel_rfl
 t5:=Tryz.underlying5
 a5:=Tryz.isAgg5
 z5:=Tryz.sizeOf5
 v5:=Tryz.zeroValue5
 infoByte:=by kernel_rfl
 cellsByte:=by kernel_rfl
 sizeByte:=by kernel_rfl
 neB5:=by decide}
open Go.RowKit in
theorem Tryz.Builder_String_any_k (B b:Nat)(l:List UInt8)(w:World)(h:Lib.IsBuilderF 109 5 B b (Lib.byteCells l) w)(hBw:B≤w.heap.size):
  Calls Tryz.prog 67 #[.pointer (some ⟨b,0,none⟩)] w fun e w'=>e=.returned (.string ⟨l.toArray⟩)∧(Lib.IsBuilderF 109 5 B b (Lib.byteCells l) w'∧Below B w w'∧Lib.OthersKept 5 (some b) w w'):=Any.Builder_String_any_k Tryz.lays169 Tryz.Builder_Extra_169 B b l w h hBw
def Tryz.XgL:Go.Shelf.Ren:=⟨fun|4=>98|n=>n,fun|22=>28|4=>4|5=>5|n=>n,fun|n=>n⟩
theorem Tryz.XmT:Go.Proofs.SlLaysK.n4 Tryz.prog Tryz.XgL:={
 mixed:=by kernel_rfl
 f4:=Tryz.func98.trans (congrArg some (by kernel_rfl))
 t4:=Tryz.underlying4
 a4:=Tryz.isAgg4
 z4:=Tryz.sizeOf4
 v4:=Tryz.zeroValue4
 t22:=Tryz.underlying28
 a22:=Tryz.isAgg28
 z22:=Tryz.sizeOf28
 v22:=Tryz.zeroValue28
 t5:=Tryz.underlying5
 i5:=by kernel_rfl}
open Go.RowKit Go.Lib in
theorem Tryz.bytes_Clone_at (a:Addr)(n c:Nat)(xs:List Int)(w:World)(hx:xs.length=n)(hbig:n≤140737488355328)(hc:∀i,i<n→w.cell? (a.add i)=some (.int .u8 (xs.getD i 0))):
  Calls Tryz.prog 98 #[.slice (some a) n c] w fun e w'=>∃v',e=.returned v'∧w'.ownsRow w.heap.size 5 1 v' n (xs.map (Value.int .u8))∧v'≠ .slice none 0 0∧Below w.heap.size w w':=Any.bytes_Clone_at Tryz.XmT a n c xs w hx hbig hc
def Tryz.XfC:Go.Shelf.Ren:=⟨fun|115=>171|n=>n,fun|37=>28|4=>4|9=>9|5=>5|n=>n,fun|n=>n⟩
theorem Tryz.Xk4:Go.Proofs.Lays.nb115 Tryz.prog Tryz.XfC:={
 mixed:=by kernel_rfl
 f115:=Tryz.func171.trans (congrArg some (by kernel_rfl))
 t4:=Tryz.underlying4
 a4:=Tryz.isAgg4
 z4:=Tryz.sizeOf4
 v4:=Tryz.zeroValue4
 t9:=Tryz.underlying9
 a9:=Tryz.isAgg9
 z9:=Tryz.sizeOf9
 v9:=Tryz.zeroValue9
 t37:=Tryz.underlying28
 a37:=Tryz.isAgg28
 z37:=Tryz.sizeOf28
 v37:=Tryz.zeroValue28
 t5:=Tryz.underlying5
 a5:=Tryz.isAgg5
 z5:=Tryz.sizeOf5
 v5:=Tryz.zeroValue5}
theorem Tryz.bytes_Equal_all (p1 p2:Option Addr)(n c m d:Nat)(xs ys:List Int)(w:World)(hx:xs.length=n)(hy:ys.length=m)(h1:Lib.BytesIn w p1 n xs)(h2:Lib.BytesIn w p2 m ys):
  Calls Tryz.prog 171 #[.slice p1 n c,.slice p2 m d] w fun e w'=>e=.returned (.bool (Lib.bytesOf xs==Lib.bytesOf ys))∧w'=w:=Any.bytes_Equal_all Tryz.Xk4 p1 p2 n c m d xs ys w hx hy h1 h2
end Go.Proofs
