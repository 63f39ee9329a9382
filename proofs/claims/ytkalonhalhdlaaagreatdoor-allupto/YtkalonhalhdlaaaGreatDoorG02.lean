import Derived.Test.YtkalonhalhdlaaaGreatDoorG01
import Derived.Deep.RegionHeld3
import Derived.Deep.RegionLaw
import Derived.Deep.AppendLies
set_option maxHeartbeats 2000000
set_option maxRecDepth 100000
namespace Go.Proofs.YtkalonhalhdlaaaGreatDoor
open Go.RowKit
def Xay (m k ns nr:Nat):Prop:=(m=8∨m=128)∧1≤k∧k≤9∧(k=1→ns<m)∧(k≠1→ns=0)∧(k≤4→nr<m)∧(4<k→nr=0)
theorem Xdd {m k ns nr:Nat}(h:Xay m k ns nr):Xv m k+2*ns<256:=by
 have:=Xf0 m k;by_cases h1:k=1
 ·subst h1;have e:Xv m 1=0:=by simp[Xv,Xa5]
  have:=h.2.2.2.1 rfl;rcases h.1 with h|h <;> omega
 ·have:=h.2.2.2.2.1 h1;omega
theorem XcD (p:Bool)(n:Nat):X3 p n≤n:=by cases p <;> simp[X3]
theorem Xd2 {m k ns nr:Nat}(h:Xay m k ns nr)(p:Bool)(hw:¬wide m k=true):Xv m k+2*ns+X3 p 16+32*nr<256:=by
 have hb:=XcD p 16;obtain⟨hm,k1,k9,a1,a2,b1,b2⟩:=h;simp[wide]at hw
 have key:∀x,(x=1∨x=2∨x=3∨x=4)→Xv m x<16:=by
  intro x hx;rcases hx with rfl|rfl|rfl|rfl <;> simp[Xv,Xa5]
 have key2:∀x,(x=5∨x=6∨x=7∨x=8∨x=9)→Xv m x<240:=by
  intro x hx;rcases hx with rfl|rfl|rfl|rfl|rfl <;> simp[Xv,Xa5] <;> split <;> omega
 by_cases h4:k≤4
 ·have hm8:m=8:=by omega
  have hr:=b1 h4;by_cases e1:k=1
  ·have:=a1 e1;have:Xv m 1=0:=by simp[Xv,Xa5]
   subst e1;omega
  ·have:=a2 e1;have:=key k (by omega);omega
 ·have:=a2 (by omega);have:=b2 (by omega);have:=key2 k (by omega);omega
theorem Xpl (p:Bool)(nr:Nat)(h:nr<128):IntKind.u8.wrap ((X3 p 1:Nat)+IntKind.u8.wrap (IntKind.i64.wrap (2*(nr:Int))))=((X3 p 1+2*nr:Nat):Int):=by
 have hb:=XcD p 1;generalize X3 p 1=x at hb⊢;simp only[IntKind.wrap_i64,IntKind.wrap_u8];omega
theorem Xo3 (p:Bool)(nr x ns:Nat)(h:x+2*ns+X3 p 16+32*nr<256):IntKind.u8.wrap (IntKind.u8.wrap ((x:Int)+2*(ns:Int)+(X3 p 16:Nat))+IntKind.u8.wrap (IntKind.i64.wrap (32*(nr:Int))))=((x+2*ns+X3 p 16+32*nr:Nat):Int):=by
 generalize X3 p 16=y at h⊢;simp only[IntKind.wrap_i64,IntKind.wrap_u8];omega
theorem Xos (W:World)(x:Nat)(hx:x<256)(l:List UInt8)(hl:l=[UInt8.ofNat x]):Seg (W.alloc (.cells #[.int .u8 (x:Int)] 5)).drew W.heap.size 0 l:=by
 subst hl;intro i hi;simp at hi;subst hi;simp;omega
theorem Xot (W:World)(x y:Nat)(hx:x<256)(hy:y<256)(l:List UInt8)(hl:l=[UInt8.ofNat x,UInt8.ofNat y]):Seg (W.alloc (.cells #[.int .u8 (x:Int),.int .u8 (y:Int)] 5)).drew W.heap.size 0 l:=by
 subst hl;intro i hi;simp at hi;have h2:i=0∨i=1:=by omega
 rcases h2 with rfl|rfl
 ·simp;omega
 ·simp;omega
theorem XhI (m k ns nr:Nat)(a:Int)(p:Bool)(v:Value)(w:World)(hC:Ctl w)(hs:0<w.heap.size)(ok:Xay m k ns nr):
  Calls Tryz.prog 77 #[.int .i64 m,.agg #[.int .i64 a,.int .i64 k,.bool p,.int .i64 ns,.int .i64 nr,v]] w fun e w'=>∃b,e=.returned (.slice (some ⟨b,0,none⟩) (cbN m k) (cbN m k))∧w.heap.size≤b∧b<w'.heap.size∧Seg w' b 0 (Yo m k ns nr p)∧Below w.heap.size w w':=by
 have h1:=Xdd ok;have hm:m=8∨m=128:=ok.1
 have hns:ns<128:=by
  by_cases e:k=1
  ·have:=ok.2.2.2.1 e;omega
  ·have:=ok.2.2.2.2.1 e;omega
 have hnr:nr<128:=by
  by_cases e:k≤4
  ·have:=ok.2.2.2.2.2.1 e;omega
  ·have:=ok.2.2.2.2.2.2 (by omega);omega
 have c1:=fun n=>XaX m k ok.2.2.1 ((w.alloc (.cells #[.int .i64 a,.int .i64 k,.bool p,.int .i64 ns,.int .i64 nr,v] 30)).drewN n) (hC.below (below_drewN ((Below.refl _ w).alloc (Nat.le_refl _) _) _) hs)
 have c2:=fun w=>ZX m k ok.2.1 w
 go_enter Tryz.func77,Tryz.ntmps77
 go_wp2
 go_quiet (first|(go_at_call 115;exact Calls.quiet_of_same (c1 _)))
 go_wp2_with fail
 refine(c2 _).mono ?_;rintro e W1 ⟨rfl,rfl⟩;obtain⟨W,hW⟩:∃W,W=((w.alloc (.cells #[.int .i64 a,.int .i64 k,.bool p,.int .i64 ns,.int .i64 nr,v] 30)).drewN nq):=⟨_,rfl⟩;have hbW:Below w.heap.size w W:=by rw[hW];exact below_drewN ((Below.refl _ w).alloc (Nat.le_refl _) _) nq
 have hR:W.heap[w.heap.size]?=some (.cells #[.int .i64 a,.int .i64 k,.bool p,.int .i64 ns,.int .i64 nr,v] 30 (0,0)):=by rw[hW];exact Array.getElem?_push_size
 rw[← hW];have r2:W.cell? ⟨w.heap.size,2,none⟩=some (.bool p):=by rw[Lib.cell_of_heap hR];rfl
 have r4:W.cell? ⟨w.heap.size,4,none⟩=some (.int .i64 nr):=by rw[Lib.cell_of_heap hR];rfl
 clear hW hR c1;by_cases hw:wide m k=true
 ·have hcb:cbN m k=2:=by simp[cbN,hw]
  rw[hcb];go_wp2
  go_region_held3 (fun w'=>w'.cell? ⟨w.heap.size,2,none⟩=some (.bool p)∧w'.cell? ⟨w.heap.size,4,none⟩=some (.int .i64 nr)) (go_keep) (first|(go_at_call 116;refine(XeQ p 1 _).mono ?_;rintro e w' ⟨rfl,rfl⟩))
  all_goals go_wp2
  go_ret
  refine⟨W.heap.size,by rw[hcb];rfl,hbW.size,by simp,?_,below_drewN (hbW.alloc hbW.size _) 1⟩;rw[Xpl p nr hnr];exact Xot W (Xv m k+2*ns) (X3 p 1+2*nr) h1 (by have:=XcD p 1;omega) _ (by simp[Yo,hw])
 ·have hcb:cbN m k=1:=by simp[cbN,hw]
  rw[hcb];go_wp2
  go_region_held3 (fun w'=>w'.cell? ⟨w.heap.size,2,none⟩=some (.bool p)∧w'.cell? ⟨w.heap.size,4,none⟩=some (.int .i64 nr)) (go_keep) (first|(go_at_call 116;refine(XeQ p 16 _).mono ?_;rintro e w' ⟨rfl,rfl⟩))
  all_goals go_wp2
  go_ret
  refine⟨W.heap.size,by rw[hcb];rfl,hbW.size,by simp,?_,below_drewN (hbW.alloc hbW.size _) 1⟩;have h2:=Xd2 ok p hw;rw[Xo3 p nr _ _ h2];exact Xos W (Xv m k+2*ns+X3 p 16+32*nr) h2 _ (by simp[Yo,hw])
theorem JI {m:Int}(h:XP m=true):∃m':Nat,m=m'∧(m'=8∨m'=128):=by
 simp[XP]at h;rcases h with rfl|rfl
 ·exact ⟨8,rfl,.inl rfl⟩
 ·exact ⟨128,rfl,.inr rfl⟩
theorem Xg2 (m:Int)(v:Value)(w:World)(h:XP m=false):
  Calls Tryz.prog 83 #[.int .i64 m,v] w fun e w'=>e=.returned (.tuple #[.int .i64 0,.int .i64 1])∧∃n,w'=w.drewN n:=by
 have c1:=fun w=>Y8 m w
 rw[h]at c1;go_enter Tryz.func83,Tryz.ntmps83
 go_wp2_with fail
 refine(c1 _).mono ?_;rintro e W1 ⟨rfl,rfl⟩;go_wp2
 exact bodyPost_ret (v:=.tuple #[.int .i64 0,.int .i64 1]) (by simp[results,Tryz.results83,go_sem]) rfl ⟨rfl,0,rfl⟩
theorem Xg3 (m:Int)(p:Option Addr)(c:Nat)(w:World)(h:XP m=true):
  Calls Tryz.prog 83 #[.int .i64 m,.slice p 0 c] w fun e w'=>e=.returned (.tuple #[.int .i64 0,.int .i64 2])∧∃n,w'=w.drewN n:=by
 have c1:=fun w=>Y8 m w
 rw[h]at c1;go_enter Tryz.func83,Tryz.ntmps83
 go_wp2_with fail
 refine(c1 _).mono ?_;rintro e W1 ⟨rfl,rfl⟩;go_wp2
 exact bodyPost_ret (v:=.tuple #[.int .i64 0,.int .i64 2]) (by simp[results,Tryz.results83,go_sem]) rfl ⟨rfl,0,rfl⟩
theorem XfG (m:Int)(b off n c:Nat)(x:UInt8)(w:World)(h:XP m=true)(hn:0<n)(hx:w.cell? ⟨b,off,none⟩=some (.int .u8 (x.toNat:Int)))(ha:XL x.toNat=false):
  Calls Tryz.prog 83 #[.int .i64 m,.slice (some ⟨b,off,none⟩) n c] w fun e w'=>e=.returned (.tuple #[.int .i64 0,.int .i64 3])∧∃n,w'=w.drewN n:=by
 have c1:=fun w=>Y8 m w
 have c2:=fun w=>ZG x.toNat w
 rw[h]at c1;rw[ha]at c2;have hx8:x.toNat<256:=x.toNat_lt;have hn1:¬((n:Int)=0):=by omega
 have hn2:(0:Int)<(n:Int):=by omega
 go_enter Tryz.func83,Tryz.ntmps83
 go_wp2_with fail
 refine(c1 _).mono ?_;rintro e W1 ⟨rfl,rfl⟩;go_wp2_with fail
 refine(c2 _).mono ?_;rintro e W2 ⟨rfl,rfl⟩;go_wp2
 exact bodyPost_ret (v:=.tuple #[.int .i64 0,.int .i64 3]) (by simp[results,Tryz.results83,go_sem]) rfl ⟨rfl,0,rfl⟩
theorem Xg4 (m:Int)(b off c:Nat)(x:UInt8)(w:World)(h:XP m=true)(hx:w.cell? ⟨b,off,none⟩=some (.int .u8 (x.toNat:Int)))(ha:XL x.toNat=true):
  Calls Tryz.prog 83 #[.int .i64 m,.slice (some ⟨b,off,none⟩) 1 c] w fun e w'=>e=.returned (.tuple #[.int .i64 0,.int .i64 2])∧∃n,w'=w.drewN n:=by
 have c1:=fun w=>Y8 m w
 have c2:=fun w=>ZG x.toNat w
 rw[h]at c1;rw[ha]at c2;have hx8:x.toNat<256:=x.toNat_lt;go_enter Tryz.func83,Tryz.ntmps83
 go_wp2_with fail
 refine(c1 _).mono ?_;rintro e W1 ⟨rfl,rfl⟩;go_wp2_with fail
 refine(c2 _).mono ?_;rintro e W2 ⟨rfl,rfl⟩;go_wp2
 exact bodyPost_ret (v:=.tuple #[.int .i64 0,.int .i64 2]) (by simp[results,Tryz.results83,go_sem]) rfl ⟨rfl,0,rfl⟩
theorem XkN (w:World)(a b:Nat):(w.drewN a).drewN b=w.drewN (a+b):=by
 induction b with
 |zero=>rfl
 |succ b ih=>show((w.drewN a).drewN b).drew=(w.drewN (a+b)).drew;rw[ih]
theorem Xjc {w w':World}{a:Nat}(h:w'=w.drewN a)(b:Nat):∃n,w'.drewN b=w.drewN n:=⟨a+b,by rw[h,XkN]⟩
def Xjs (o:Option Nat):Nat×Nat:=match o with
 |some k=>(k,0)
 |none=>(0,4)
theorem Xg1 (m b off n c:Nat)(x y:UInt8)(w:World)(h:m=8∨m=128)(hn:1<n)(hx:w.cell? ⟨b,off,none⟩=some (.int .u8 (x.toNat:Int)))(hy:w.cell? ⟨b,off+1,none⟩=some (.int .u8 (y.toNat:Int)))(ha:XL x.toNat=true)(hC:Ctl w):
  Calls Tryz.prog 83 #[.int .i64 m,.slice (some ⟨b,off,none⟩) n c] w fun e w'=>e=.returned (.tuple #[.int .i64 ((Xjs (XE m y.toNat 1 9)).1:Nat),.int .i64 ((Xjs (XE m y.toNat 1 9)).2:Nat)])∧∃n,w'=w.drewN n:=by
 have c1:=fun w=>Y8 m w
 have c2:=fun w=>ZG x.toNat w
 have hm:XP m=true:=by rcases h with rfl|rfl <;> rfl
 rw[hm]at c1;rw[ha]at c2;have hx8:x.toNat<256:=x.toNat_lt;have hy8:y.toNat<256:=y.toNat_lt;have hn1:¬((n:Int)=0):=by omega
 have hn2:¬((n:Int)=1):=by omega
 have hn3:(0:Int)<(n:Int):=by omega
 have hn4:(1:Int)<(n:Int):=by omega
 go_enter Tryz.func83,Tryz.ntmps83
 go_wp2_with fail
 refine(c1 _).mono ?_;rintro e W1 ⟨rfl,rfl⟩;go_wp2_with fail
 refine(c2 _).mono ?_;rintro e W2 ⟨rfl,rfl⟩;go_wp2
 clear c1 c2 hx;go_loopw [6] (fun i wr=>∃(k nd:Nat),1≤k∧k≤10∧i=.int .i64 k∧wr=W2.drewN nd∧XE m y.toNat k (10-k)=XE m y.toNat 1 9) (fun i _=>10 -(intOf i).toNat)
 case atStart=>exact⟨1,0,by omega,by omega,rfl,rfl,rfl⟩
 case round=>
  obtain⟨k,nd,hk1,hk10,rfl,hwr,hkf⟩:=hrel;have hyw:wr.cell? ⟨b,off+1,none⟩=some (.int .u8 (y.toNat:Int)):=by rw[hwr];simpa using hy
  have hCw:Ctl wr:=by intro i hi;rw[hwr];simpa using hC i hi
  have HW:Hid (wr=W2.drewN nd):=hwr;clear hwr hy hC;by_cases hk9:k≤9
  ·have q1:=fun w=>XgI m k hk1 w
   have q2:=fun n=>XaX m k hk9 (wr.drewN n) (fun i hi=>by simpa using hCw i hi)
   have hand:bits .and .u8 (y.toNat:Int) (maskN m k:Nat)=((y.toNat &&& maskN m k:Nat):Int):=u8_and_nat _ _ hy8 (XmZ m k);have e10:10-k=(10 -(k+1))+1:=by omega
   rw[e10,XE]at hkf;generalize maskN m k=mk at hand q1 hkf;generalize Xv m k=bs at q2 hkf;by_cases hq:y.toNat &&& mk=bs
   ·rw[if_pos hq]at hkf;have hqi:((y.toNat &&& mk:Nat):Int)=(bs:Int):=by omega
    have HK:=hide hkf;clear hkf hq;go_wp2
    go_quiet (first|(go_at_call 117;exact Calls.quiet_of_same (q1 _))|(go_at_call 115;exact Calls.quiet_of_same (q2 _)))
    go_wp2
    exact bodyPost_ret (v:=.tuple #[.int .i64 (k:Nat),.int .i64 0]) (by simp[results,Tryz.results83,go_sem]) rfl ⟨by rw[← Xa HK];rfl,Xjc HW.out _⟩
   ·rw[if_neg hq]at hkf;have hqi:¬((y.toNat &&& mk:Nat):Int)=(bs:Int):=by omega
    have HK:=hide hkf;clear hkf hq;go_wp2
    go_quiet (first|(go_at_call 117;exact Calls.quiet_of_same (q1 _))|(go_at_call 115;exact Calls.quiet_of_same (q2 _)))
    go_wp2
    go_roundw
    case rel=>exact⟨k+1,(Xjc HW.out _).choose,by omega,by omega,by go_num,(Xjc HW.out _).choose_spec,Xa HK⟩
    case measure=>simp[intOf];omega
  ·obtain rfl:k=10:=by omega
   have HK:=hide hkf;clear hkf;go_wp2
   exact bodyPost_ret (v:=.tuple #[.int .i64 0,.int .i64 4]) (by simp[results,Tryz.results83,go_sem]) rfl ⟨by rw[← Xa HK];rfl,nd,HW.out⟩
def frC (k:Nat)(p:Bool)(ns nr:Int):Value:=.agg #[.int .i64 0,.int .i64 k,.bool p,.int .i64 ns,.int .i64 nr,.slice none 0 0]
theorem Xcs (n:Nat):((n:Int) != 0)=decide (n≠0):=by
 by_cases h:n=0 <;> simp[h]
theorem XcS (m k b off n cap:Nat)(x:UInt8)(w:World)(hk:4<k)(hn:0<n)(hx:w.cell? ⟨b,off,none⟩=some (.int .u8 (x.toNat:Int)))(hb:b<w.heap.size):
  Calls Tryz.prog 85 #[.int .i64 m,.int .i64 k,.slice (some ⟨b,off,none⟩) n cap] w fun e w'=>e=.returned (frC k (decide (x.toNat &&& 16≠0)) 0 0)∧Below w.heap.size w w':=by
 have hand:bits .and .u8 (x.toNat:Int) 16=((x.toNat &&& 16:Nat):Int):=u8_and_nat x.toNat 16 x.toNat_lt (by omega);have hn2:(0:Int)<(n:Int):=by omega
 have c1:=fun w=>ZR k w
 have c2:=fun w=>ZB k w
 have h1:X9 k=false:=by simp[X9];omega
 have h2:XJ k=false:=by simp[XJ];omega
 rw[h1]at c1;rw[h2]at c2;have hne:¬b=w.heap.size:=by omega
 have hx1:∀o,(w.alloc o).cell? ⟨b,off,none⟩=some (.int .u8 (x.toNat:Int)):=fun o=>by rw[((Below.refl w.heap.size w).alloc (Nat.le_refl _) o).cell (p:=⟨b,off,none⟩) hb];exact hx
 clear h1 h2;go_enter Tryz.func85,Tryz.ntmps85
 go_wp2_with fail
 refine(c1 _).mono ?_;rintro e W1 ⟨rfl,rfl⟩;go_wp2_with fail
 refine(c2 _).mono ?_;rintro e W1 ⟨rfl,rfl⟩;go_wp2
 exact bodyPost_ret (v:=frC k ((x.toNat &&& 16:Nat) !=(0:Int)) 0 0) (by simp[results,Tryz.results85,go_sem,frC]) rfl ⟨by rw[Xcs],((Below.refl w.heap.size w).alloc (Nat.le_refl _) _).alloc (by simp) _⟩
theorem XeB (b off n cap:Nat)(x:UInt8)(w:World)(hn:0<n)(hx:w.cell? ⟨b,off,none⟩=some (.int .u8 (x.toNat:Int)))(hb:b<w.heap.size):
  Calls Tryz.prog 85 #[.int .i64 8,.int .i64 1,.slice (some ⟨b,off,none⟩) n cap] w fun e w'=>e=.returned (frC 1 (decide (x.toNat &&& 16≠0)) ((x.toNat / 2%8:Nat):Int) ((x.toNat / 32:Nat):Int))∧Below w.heap.size w w':=by
 have hand:bits .and .u8 (x.toNat:Int) 16=((x.toNat &&& 16:Nat):Int):=u8_and_nat x.toNat 16 x.toNat_lt (by omega);have hx8:x.toNat<256:=x.toNat_lt;have hn2:(0:Int)<(n:Int):=by omega
 have c1:=fun w=>ZR 1 w
 have c2:=fun w=>ZB 1 w
 have h1:X9 1=true:=by rfl
 have h2:XJ 1=true:=by rfl
 rw[h1]at c1;rw[h2]at c2;have hne:¬b=w.heap.size:=by omega
 have hne2:¬b=w.heap.size+1:=by omega
 have hx1:∀o,(w.alloc o).cell? ⟨b,off,none⟩=some (.int .u8 (x.toNat:Int)):=fun o=>by rw[((Below.refl w.heap.size w).alloc (Nat.le_refl _) o).cell (p:=⟨b,off,none⟩) hb];exact hx
 have hx2:∀o o',((w.alloc o).alloc o').cell? ⟨b,off,none⟩=some (.int .u8 (x.toNat:Int)):=fun o o'=>by rw[(((Below.refl w.heap.size w).alloc (Nat.le_refl _) o).alloc (by simp) o').cell (p:=⟨b,off,none⟩) hb];exact hx
 clear h1 h2;go_enter Tryz.func85,Tryz.ntmps85
 go_wp2_with fail
 refine(c1 _).mono ?_;rintro e W1 ⟨rfl,rfl⟩;go_wp2_with fail
 refine(c2 _).mono ?_;rintro e W1 ⟨rfl,rfl⟩;go_wp2
 exact bodyPost_ret (v:=frC 1 ((x.toNat &&& 16:Nat) !=(0:Int)) ((x.toNat:Int) / 2%8) ((x.toNat:Int) / 32)) (by simp[results,Tryz.results85,go_sem,frC]) rfl ⟨by rw[Xcs];simp,((Below.refl w.heap.size w).alloc (Nat.le_refl _) _).alloc (by simp) _⟩
theorem XeC (k b off n cap:Nat)(x:UInt8)(w:World)(hk:2≤k)(hk4:k≤4)(hn:0<n)(hx:w.cell? ⟨b,off,none⟩=some (.int .u8 (x.toNat:Int)))(hb:b<w.heap.size):
  Calls Tryz.prog 85 #[.int .i64 8,.int .i64 k,.slice (some ⟨b,off,none⟩) n cap] w fun e w'=>e=.returned (frC k (decide (x.toNat &&& 16≠0)) 0 ((x.toNat / 32:Nat):Int))∧Below w.heap.size w w':=by
 have hand:bits .and .u8 (x.toNat:Int) 16=((x.toNat &&& 16:Nat):Int):=u8_and_nat x.toNat 16 x.toNat_lt (by omega);have hx8:x.toNat<256:=x.toNat_lt;have hn2:(0:Int)<(n:Int):=by omega
 have c1:=fun w=>ZR k w
 have c2:=fun w=>ZB k w
 have h1:X9 k=false:=by simp[X9];omega
 have h2:XJ k=true:=by simp[XJ];omega
 rw[h1]at c1;rw[h2]at c2;have hne:¬b=w.heap.size:=by omega
 have hne2:¬b=w.heap.size+1:=by omega
 have hx1:∀o,(w.alloc o).cell? ⟨b,off,none⟩=some (.int .u8 (x.toNat:Int)):=fun o=>by rw[((Below.refl w.heap.size w).alloc (Nat.le_refl _) o).cell (p:=⟨b,off,none⟩) hb];exact hx
 have hx2:∀o o',((w.alloc o).alloc o').cell? ⟨b,off,none⟩=some (.int .u8 (x.toNat:Int)):=fun o o'=>by rw[(((Below.refl w.heap.size w).alloc (Nat.le_refl _) o).alloc (by simp) o').cell (p:=⟨b,off,none⟩) hb];exact hx
 clear h1 h2;go_enter Tryz.func85,Tryz.ntmps85
 go_wp2_with fail
 refine(c1 _).mono ?_;rintro e W1 ⟨rfl,rfl⟩;go_wp2_with fail
 refine(c2 _).mono ?_;rintro e W1 ⟨rfl,rfl⟩;go_wp2
 exact bodyPost_ret (v:=frC k ((x.toNat &&& 16:Nat) !=(0:Int)) 0 ((x.toNat:Int) / 32)) (by simp[results,Tryz.results85,go_sem,frC]) rfl ⟨by rw[Xcs];simp,((Below.refl w.heap.size w).alloc (Nat.le_refl _) _).alloc (by simp) _⟩
theorem Xdn (b off n cap:Nat)(x y:UInt8)(w:World)(hn:1<n)(hx:w.cell? ⟨b,off,none⟩=some (.int .u8 (x.toNat:Int)))(hy:w.cell? ⟨b,off+1,none⟩=some (.int .u8 (y.toNat:Int)))(hb:b<w.heap.size):
  Calls Tryz.prog 85 #[.int .i64 128,.int .i64 1,.slice (some ⟨b,off,none⟩) n cap] w fun e w'=>e=.returned (frC 1 (decide (y.toNat%2≠0)) ((x.toNat / 2%128:Nat):Int) ((y.toNat / 2:Nat):Int))∧Below w.heap.size w w':=by
 have hand:bits .and .u8 (x.toNat:Int) 16=((x.toNat &&& 16:Nat):Int):=u8_and_nat x.toNat 16 x.toNat_lt (by omega);have hx8:x.toNat<256:=x.toNat_lt;have hand2:bits .and .u8 (y.toNat:Int) 1=((y.toNat%2:Nat):Int):=by rw[← Nat.and_one_is_mod];exact u8_and_nat y.toNat 1 y.toNat_lt (by omega)
 have hy8:y.toNat<256:=y.toNat_lt;have hn2:(0:Int)<(n:Int):=by omega
 have hn3:(1:Int)<(n:Int):=by omega
 have c1:=fun w=>ZR 1 w
 have c2:=fun w=>ZB 1 w
 have h1:X9 1=true:=by rfl
 have h2:XJ 1=true:=by rfl
 rw[h1]at c1;rw[h2]at c2;have hne:¬b=w.heap.size:=by omega
 have hne2:¬b=w.heap.size+1:=by omega
 have hx1:∀o,(w.alloc o).cell? ⟨b,off,none⟩=some (.int .u8 (x.toNat:Int)):=fun o=>by rw[((Below.refl w.heap.size w).alloc (Nat.le_refl _) o).cell (p:=⟨b,off,none⟩) hb];exact hx
 have hx2:∀o o',((w.alloc o).alloc o').cell? ⟨b,off,none⟩=some (.int .u8 (x.toNat:Int)):=fun o o'=>by rw[(((Below.refl w.heap.size w).alloc (Nat.le_refl _) o).alloc (by simp) o').cell (p:=⟨b,off,none⟩) hb];exact hx
 have hy2:∀o o',((w.alloc o).alloc o').cell? ⟨b,off+1,none⟩=some (.int .u8 (y.toNat:Int)):=fun o o'=>by rw[(((Below.refl w.heap.size w).alloc (Nat.le_refl _) o).alloc (by simp) o').cell (p:=⟨b,off+1,none⟩) hb];exact hy
 clear h1 h2;go_enter Tryz.func85,Tryz.ntmps85
 go_wp2_with fail
 refine(c1 _).mono ?_;rintro e W1 ⟨rfl,rfl⟩;go_wp2_with fail
 refine(c2 _).mono ?_;rintro e W1 ⟨rfl,rfl⟩;go_wp2
 go_region_held3 (fun w'=>w'.cell? ⟨b,off+1,none⟩=some (.int .u8 (y.toNat:Int))) (go_keep) (fail)
 all_goals go_wp2
 exact bodyPost_ret (v:=frC 1 ((y.toNat:Int)%2 != 0) ((x.toNat:Int) / 2%128) ((y.toNat:Int) / 2)) (by simp[results,Tryz.results85,go_sem,frC]) rfl ⟨by rw[← Xcs];simp,(((Below.refl w.heap.size w).alloc (Nat.le_refl _) _).alloc (by simp) _).drew⟩
theorem Xdo (k b off n cap:Nat)(x y:UInt8)(w:World)(hk:2≤k)(hk4:k≤4)(hn:1<n)(hx:w.cell? ⟨b,off,none⟩=some (.int .u8 (x.toNat:Int)))(hy:w.cell? ⟨b,off+1,none⟩=some (.int .u8 (y.toNat:Int)))(hb:b<w.heap.size):
  Calls Tryz.prog 85 #[.int .i64 128,.int .i64 k,.slice (some ⟨b,off,none⟩) n cap] w fun e w'=>e=.returned (frC k (decide (y.toNat%2≠0)) 0 ((y.toNat / 2:Nat):Int))∧Below w.heap.size w w':=by
 have hand:bits .and .u8 (x.toNat:Int) 16=((x.toNat &&& 16:Nat):Int):=u8_and_nat x.toNat 16 x.toNat_lt (by omega);have hx8:x.toNat<256:=x.toNat_lt;have hand2:bits .and .u8 (y.toNat:Int) 1=((y.toNat%2:Nat):Int):=by rw[← Nat.and_one_is_mod];exact u8_and_nat y.toNat 1 y.toNat_lt (by omega)
 have hy8:y.toNat<256:=y.toNat_lt;have hn2:(0:Int)<(n:Int):=by omega
 have hn3:(1:Int)<(n:Int):=by omega
 have c1:=fun w=>ZR k w
 have c2:=fun w=>ZB k w
 have h1:X9 k=false:=by simp[X9];omega
 have h2:XJ k=true:=by simp[XJ];omega
 rw[h1]at c1;rw[h2]at c2;have hne:¬b=w.heap.size:=by omega
 have hne2:¬b=w.heap.size+1:=by omega
 have hx1:∀o,(w.alloc o).cell? ⟨b,off,none⟩=some (.int .u8 (x.toNat:Int)):=fun o=>by rw[((Below.refl w.heap.size w).alloc (Nat.le_refl _) o).cell (p:=⟨b,off,none⟩) hb];exact hx
 have hx2:∀o o',((w.alloc o).alloc o').cell? ⟨b,off,none⟩=some (.int .u8 (x.toNat:Int)):=fun o o'=>by rw[(((Below.refl w.heap.size w).alloc (Nat.le_refl _) o).alloc (by simp) o').cell (p:=⟨b,off,none⟩) hb];exact hx
 have hy2:∀o o',((w.alloc o).alloc o').cell? ⟨b,off+1,none⟩=some (.int .u8 (y.toNat:Int)):=fun o o'=>by rw[(((Below.refl w.heap.size w).alloc (Nat.le_refl _) o).alloc (by simp) o').cell (p:=⟨b,off+1,none⟩) hb];exact hy
 clear h1 h2;go_enter Tryz.func85,Tryz.ntmps85
 go_wp2_with fail
 refine(c1 _).mono ?_;rintro e W1 ⟨rfl,rfl⟩;go_wp2_with fail
 refine(c2 _).mono ?_;rintro e W1 ⟨rfl,rfl⟩;go_wp2
 go_region_held3 (fun w'=>w'.cell? ⟨b,off+1,none⟩=some (.int .u8 (y.toNat:Int))) (go_keep) (fail)
 all_goals go_wp2
 exact bodyPost_ret (v:=frC k ((y.toNat:Int)%2 != 0) 0 ((y.toNat:Int) / 2)) (by simp[results,Tryz.results85,go_sem,frC]) rfl ⟨by rw[← Xcs];simp,(((Below.refl w.heap.size w).alloc (Nat.le_refl _) _).alloc (by simp) _).drew⟩
theorem Xd6 (m k b off n cap:Nat)(l:List UInt8)(w:World)(hm:m=8∨m=128)(hk:1≤k)(hk9:k≤9)(hn:cbN m k≤n)(hl:cbN m k≤l.length)(hseg:Seg w b off l)(hb:b<w.heap.size):
  Calls Tryz.prog 85 #[.int .i64 m,.int .i64 k,.slice (some ⟨b,off,none⟩) n cap] w fun e w'=>e=.returned (frC k (XY m k l).p (XY m k l).ns (XY m k l).nr)∧Below w.heap.size w w':=by
 have h1:1≤cbN m k:=by unfold cbN;split <;> omega
 have hx:=hseg 0 (by omega);simp only[Nat.add_zero]at hx;by_cases h4:4<k
 ·refine (XcS m k b off n cap _ w h4 (by omega) hx hb).mono ?_;rintro e w' ⟨rfl,hw⟩;refine⟨?_,hw⟩;simp only[XY,if_pos h4]
 ·rcases hm with rfl|rfl
  ·by_cases hk1:k=1
   ·subst hk1;refine(XeB b off n cap _ w (by omega) hx hb).mono ?_;rintro e w' ⟨rfl,hw⟩;exact⟨rfl,hw⟩
   ·refine (XeC k b off n cap _ w (by omega) (by omega) (by omega) hx hb).mono ?_;rintro e w' ⟨rfl,hw⟩;refine⟨?_,hw⟩;simp only[XY,if_neg h4,if_pos,if_neg hk1]
  ·have hw:cbN 128 k=2:=by simp[cbN,wide];omega
   have hy:=hseg 1 (by omega);by_cases hk1:k=1
   ·subst hk1;refine(Xdn b off n cap _ _ w (by omega) hx hy hb).mono ?_;rintro e w' ⟨rfl,hw⟩;exact⟨rfl,hw⟩
   ·refine (Xdo k b off n cap _ _ w (by omega) (by omega) (by omega) hx hy hb).mono ?_;rintro e w' ⟨rfl,hw⟩;refine⟨?_,hw⟩;simp[XY,if_neg h4,if_neg hk1]
theorem Xcu (m:Int)(p:Option Addr)(c:Nat)(l:List UInt8)(w:World)(hsrc:XU w p l)(hC:Ctl w):
  Calls Tryz.prog 83 #[.int .i64 m,.slice p l.length c] w fun e w'=>e=.returned (.tuple #[.int .i64 ((XK m l).1:Nat),.int .i64 ((XK m l).2:Nat)])∧∃n,w'=w.drewN n:=by
 cases hm:XP m with
 |false=>
  have e:XK m l=(0,1):=by simp[XK,hm]
  rw[e];exact Xg2 m _ w hm
 |true=>
  match l,hsrc with
  | [],hsrc=>
   have e:XK m []=(0,2):=by simp[XK,hm]
   rw[e];exact Xg3 m p c w hm
  |x::r,.inl h=>exact absurd h.2 (by simp)
  |x::r,.inr ⟨b,off,hp,hb,hseg⟩=>
   subst hp;have hx:=hseg 0 (by simp);simp only[Nat.add_zero,List.getD_cons_zero]at hx;cases ha:XL x.toNat with
   |false=>
    have e:XK m (x::r)=(0,3):=by simp[XK,hm,ha]
    rw[e];exact XfG m b off _ c x w hm (by simp) hx ha
   |true=>
    match r with
    | []=>
     have e:XK m [x]=(0,2):=by simp[XK,hm,ha]
     rw[e];exact Xg4 m b off c x w hm hx ha
    |y::r=>
     have hy:=hseg 1 (by simp);simp only[List.getD_cons_succ,List.getD_cons_zero]at hy;obtain⟨m',rfl,hm'⟩:=JI hm
     have e:XK m' (x::y::r)=Xjs (XE m' y.toNat 1 9):=by
      simp only[XK,hm,ha,Int.toNat_natCast];cases XE m' y.toNat 1 9 <;> rfl
     rw[e];exact Xg1 m' b off _ c x y w hm' (by simp) hx hy ha hC
def frZ:Value:=.agg #[.int .i64 0,.int .i64 0,.bool false,.int .i64 0,.int .i64 0,.slice none 0 0]
theorem Xfj (m:Int)(v:Value)(e:Nat)(w:World)(he:e≠0)
  (hK:∀o,Calls Tryz.prog 83 #[.int .i64 m,v] (w.alloc o) fun r w'=>r=.returned (.tuple #[.int .i64 0,.int .i64 (e:Nat)])∧∃n,w'=(w.drewN n).alloc o):
  Calls Tryz.prog 35 #[.int .i64 m,v] w fun r w'=>r=.returned (.tuple #[frZ,.int .i64 (e:Nat)])∧Below w.heap.size w w':=by
 have he1:¬((e:Int)=0):=by omega
 have HK:=hide hK;clear hK;go_enter Tryz.func35,Tryz.ntmps35
 go_wp2_with fail
 refine(Xa HK _).mono ?_;clear HK;rintro r W1 ⟨rfl,nd,rfl⟩;obtain⟨W0,hW0⟩:∃W0,W0=w.drewN nd:=⟨_,rfl⟩;have hb0:Below w.heap.size w W0:=by rw[hW0];exact below_drewN (Below.refl w.heap.size w) _
 have hs0:w.heap.size=W0.heap.size:=by rw[hW0];rfl
 rw[← hW0,hs0];clear hW0;go_wp2
 exact bodyPost_ret (v:=.tuple #[frZ,.int .i64 (e:Nat)]) (by simp[results,Tryz.results35,go_sem,frZ]) rfl ⟨rfl,hb0.alloc (by omega) _⟩
theorem read_short (m k n:Nat)(p:Option Addr)(c:Nat)(w:World)(hn:n=2)(hk:1≤k)(hcb:cbN m k=2)
  (hK:∀o,Calls Tryz.prog 83 #[.int .i64 m,.slice p n c] (w.alloc o) fun r w'=>r=.returned (.tuple #[.int .i64 (k:Nat),.int .i64 0])∧∃n,w'=(w.drewN n).alloc o):
  Calls Tryz.prog 35 #[.int .i64 m,.slice p n c] w fun r w'=>r=.returned (.tuple #[frZ,.int .i64 2])∧Below w.heap.size w w':=by
 subst hn;have c1:=fun w=>ZX m k hk w
 rw[hcb]at c1;have HK:=hide hK;clear hK;go_enter Tryz.func35,Tryz.ntmps35
 go_wp2_with fail
 refine(Xa HK _).mono ?_;clear HK;rintro r W1 ⟨rfl,nd,rfl⟩;obtain⟨W0,hW0⟩:∃W0,W0=w.drewN nd:=⟨_,rfl⟩;have hb0:Below w.heap.size w W0:=by rw[hW0];exact below_drewN (Below.refl w.heap.size w) _
 have hs0:w.heap.size=W0.heap.size:=by rw[hW0];rfl
 rw[← hW0,hs0];clear hW0;go_wp2_with fail
 refine(c1 _).mono ?_;rintro r W1 ⟨rfl,rfl⟩;go_wp2
 exact bodyPost_ret (v:=.tuple #[frZ,.int .i64 2]) (by simp[results,Tryz.results35,go_sem,frZ]) rfl ⟨rfl,hb0.alloc (by omega) _⟩
theorem Xls (m k cb:Nat)(p:Option Addr)(n c:Nat)(w:World)(hk:1≤k)(hcb:cbN m k=cb)(hn:1+cb≤n)(hi:Yc m k (n -(1+cb):Nat)=false)(h63:n≤1152921504606846976)
  (hK:∀o,Calls Tryz.prog 83 #[.int .i64 m,.slice p n c] (w.alloc o) fun r w'=>r=.returned (.tuple #[.int .i64 (k:Nat),.int .i64 0])∧∃n,w'=(w.drewN n).alloc o):
  Calls Tryz.prog 35 #[.int .i64 m,.slice p n c] w fun r w'=>r=.returned (.tuple #[frZ,.int .i64 5])∧Below w.heap.size w w':=by
 have c1:=fun w=>ZX m k hk w
 have c2:=fun w=>QY m k (n -(1+cb):Nat) w
 rw[hcb]at c1;rw[hi]at c2;have hlt:¬((n:Int)<1+(cb:Int)):=by omega
 have hsub:((n -(1+cb):Nat):Int)=(n:Int) -(1+(cb:Int)):=by omega
 rw[hsub]at c2;clear hi hsub hcb;have HK:=hide hK;clear hK;go_enter Tryz.func35,Tryz.ntmps35
 go_wp2_with fail
 refine(Xa HK _).mono ?_;clear HK;rintro r W1 ⟨rfl,nd,rfl⟩;obtain⟨W0,hW0⟩:∃W0,W0=w.drewN nd:=⟨_,rfl⟩;have hb0:Below w.heap.size w W0:=by rw[hW0];exact below_drewN (Below.refl w.heap.size w) _
 have hs0:w.heap.size=W0.heap.size:=by rw[hW0];rfl
 rw[← hW0,hs0];clear hW0;go_wp2_with fail
 refine(c1 _).mono ?_;rintro r W1 ⟨rfl,rfl⟩;go_wp2_with fail
 refine(c2 _).mono ?_;rintro r W1 ⟨rfl,rfl⟩;go_wp2
 exact bodyPost_ret (v:=.tuple #[frZ,.int .i64 5]) (by simp[results,Tryz.results35,go_sem,frZ]) rfl ⟨rfl,hb0.alloc (by omega) _⟩
theorem XiQ:Tryz.prog.underlying 28=some (.slice (Tryz.prog.elem 28)):=by kernel_rfl
def QM (off c cb:Nat):Nat:=if c=1+cb then off else off+(1+cb)
theorem Xd9 (b off n c cb:Nat)(h:cb≤n)(w:World):
  (Instr.sliceAt 28 (.slice (some ⟨b,off,none⟩) (n+1) c) (some (.int .i64 (1+(cb:Int)))) none none).run Tryz.prog w=.ok (.slice (some ⟨b,QM off c cb,none⟩) (n-cb) (c -(1+cb))) w:=by
 rw[run_sliceAt_slice w 28 _ _ _ _ XiQ,run_slice_l w 28 _ _ _ XiQ .i64 _ (by omega) (by omega)];have e:Tryz.prog.elem 28=5:=by kernel_rfl
 have e2:(1+(cb:Int)).toNat=1+cb:=by omega
 have e3:n+1 -(1+cb)=n-cb:=by omega
 rw[e,e2];by_cases hc:c=1+cb
 ·simp[go_sem,QM,hc,e3]
 ·simp[go_sem,QM,hc,e3]
theorem XiP (m k cb b off c len:Nat)(x:UInt8)(r:List UInt8)(w:World)(hm:m=8∨m=128)(hk:1≤k)(hk9:k≤9)(hcb:cbN m k=cb)(hn:cb≤r.length)(hi:Yc m k (r.length-cb:Nat)=true)(h63:r.length≤1048576)(hc:r.length+1≤c)(hc63:c≤9223372036854775807)
  (hseg:Seg w b off (x::r)) (hb:b<w.heap.size) (hlen:len=r.length+1)
  (hK:∀o,Calls Tryz.prog 83 #[.int .i64 m,.slice (some ⟨b,off,none⟩) len c] (w.alloc o) fun r w'=>r=.returned (.tuple #[.int .i64 (k:Nat),.int .i64 0])∧∃n,w'=(w.drewN n).alloc o):
  Calls Tryz.prog 35 #[.int .i64 m,.slice (some ⟨b,off,none⟩) len c] w fun e w'=>∃q cp,e=.returned (.tuple #[.agg #[.int .i64 (x.toNat:Int),.int .i64 k,.bool (XY m k r).p,.int .i64 (XY m k r).ns,.int .i64 (XY m k r).nr,.slice q (r.length-cb) cp],.int .i64 0])∧w'.ownsRow w.heap.size 5 1 (.slice q (r.length-cb) cp) (r.length-cb) (Lib.byteCells (r.drop cb))∧Below w.heap.size w w':=by
 subst hlen;obtain⟨i0,hi0,hz0,hz1',hz2'⟩:=info_parts infoByte;have c1:=fun w=>ZX m k hk w
 have c2:=fun w=>QY m k (r.length-cb:Nat) w
 rw[hcb]at c1;rw[hi]at c2;have hcb2:cb≤2:=by rw[← hcb];unfold cbN;split <;> omega
 have hlt:decide ((r.length:Int)+1<1+(cb:Int))=false:=decide_eq_false (by omega);have hsub:((r.length-cb:Nat):Int)=(r.length:Int)+1 -(1+(cb:Int)):=by omega
 rw[hsub]at c2;have HK:=hide hK;clear hK;go_enter Tryz.func35,Tryz.ntmps35
 go_wp2_with fail
 refine(Xa HK _).mono ?_;clear HK;rintro e W1 ⟨rfl,nd,rfl⟩;obtain⟨W0,hW0⟩:∃W0,W0=w.drewN nd:=⟨_,rfl⟩;have hb0:Below w.heap.size w W0:=by rw[hW0];exact below_drewN (Below.refl w.heap.size w) _
 have hs0:w.heap.size=W0.heap.size:=by rw[hW0];rfl
 rw[← hW0,hs0];clear hW0;go_wp2_with fail
 refine(c1 _).mono ?_;rintro e W1 ⟨rfl,rfl⟩;go_wp2_with fail
 refine(c2 _).mono ?_;rintro e W1 ⟨rfl,rfl⟩;have hcb1:1≤cb:=by rw[← hcb];unfold cbN;split <;> omega
 have hc1:¬c=1:=by omega
 have hbb:b<W0.heap.size:=by omega
 have hs0w:Seg W0 b off (x::r):=hseg.below hb0 hb;have hA:=fun o=>(Below.refl W0.heap.size W0).alloc (Nat.le_refl _) o
 have hsr:Seg W0 b (off+1) r:=by
  intro i hi;have:=hs0w (i+1) (by simp;omega);simpa[Nat.add_assoc,Nat.add_comm 1 i]using this
 have hx0:W0.cell? ⟨b,off,none⟩=some (.int .u8 (x.toNat:Int)):=by simpa using hs0w 0 (by simp)
 have hRC:=fun o=>Xd6 m k b (off+1) cb (c-1) r (W0.alloc o) hm hk hk9 (by omega) (by omega) (hsr.below (hA o) hbb) (by simp;omega)
 have HRC:=hide hRC;have HA:=hide hA;clear hRC hA c1 c2;go_wp2_with fail
 refine(Xa HRC _).mono ?_;rintro e W1 ⟨rfl,hb1⟩;clear HRC;unfold frC;obtain⟨pp,hpp⟩:∃pp,(XY m k r).p=pp:=⟨_,rfl⟩;obtain⟨nsv,hns⟩:∃nsv,(XY m k r).ns=nsv:=⟨_,rfl⟩;obtain⟨nrv,hnr⟩:∃nrv,(XY m k r).nr=nrv:=⟨_,rfl⟩;rw[hpp,hns,hnr];have HPP:=hide hpp;have HNS:=hide hns;have HNR:=hide hnr;clear hpp hns hnr;have hz1:=hb1.size;simp only[World.alloc,Array.size_push]at hz1
 have hx1:W1.cell? ⟨b,off,none⟩=some (.int .u8 (x.toNat:Int)):=by
  rw[hb1.cell (p:=⟨b,off,none⟩) (by simp;omega),(Xa HA _).cell (p:=⟨b,off,none⟩) hbb];exact hx0
 have hx1a:∀o,(W1.alloc o).cell? ⟨b,off,none⟩=some (.int .u8 (x.toNat:Int)):=fun o=>by
  rw[((Below.refl W1.heap.size W1).alloc (Nat.le_refl _) o).cell (p:=⟨b,off,none⟩) (by show b<_;omega)];exact hx1
 have hR1:W1.heap[W0.heap.size]?=some (.cells #[.int .i64 0,.int .i64 0,.bool false,.int .i64 0,.int .i64 0,.slice none 0 0] 30 (0,0)):=by
  rw[hb1.block W0.heap.size (by simp)];exact Array.getElem?_push_size
 have hx8:x.toNat<256:=x.toNat_lt;have hneb:¬b=W1.heap.size:=by omega
 have hn0:(0:Int)<(r.length:Int)+1:=by omega
 have HB1:=hide hb1;have HR1:=hide hR1;clear hb1 hR1;go_wp2
 obtain⟨W2,hW2⟩:∃W2,W2=W1.alloc (.cells #[.int .i64 (x.toNat:Int),.int .i64 k,.bool pp,.int .i64 nsv,.int .i64 nrv,.slice none 0 0] 30):=⟨_,rfl⟩;rw[← hW2];have hb12:Below W1.heap.size W1 W2:=by rw[hW2];exact(Below.refl _ W1).alloc (Nat.le_refl _) _
 have hz2:W2.heap.size=W1.heap.size+1:=by rw[hW2];simp
 have hF:W2.heap[W1.heap.size]?=some (.cells #[.int .i64 (x.toNat:Int),.int .i64 k,.bool pp,.int .i64 nsv,.int .i64 nrv,.slice none 0 0] 30 (0,0)):=by rw[hW2];exact Array.getElem?_push_size
 have hR:W2.heap[W0.heap.size]?=some (.cells #[.int .i64 0,.int .i64 0,.bool false,.int .i64 0,.int .i64 0,.slice none 0 0] 30 (0,0)):=by rw[hb12.block W0.heap.size (by omega)];exact Xa HR1
 have hb2:Below w.heap.size w W2:=(hb0.trans ((Xa HA _).mono (by omega))).trans (((Xa HB1).mono (by simp;omega)).trans (hb12.mono (by omega)));have hs2:Seg W2 b off (x::r):=hseg.below hb2 hb
 have hs3:Seg W2 b (off+(1+cb)) (r.drop cb):=by
  intro i hi;simp at hi;have:=hs2 (i+cb+1) (by simp;omega);rw[show off+(1+cb)+i=off+(i+cb+1) by omega,this];simp[List.getD,Nat.add_comm]
 have hc5:W2.cell? ⟨W1.heap.size,5,none⟩=some (.slice none 0 0):=by rw[Lib.cell_of_heap hF];rfl
 have hf5:W2.frozen? ⟨W1.heap.size,5,none⟩=false:=Lib.frozen_of_heap hF 5;clear hW2 hx1a hx1 HR1 HB1 HA hsr hx0 hs0w hs2
 have hs4:Seg W2 b (QM off c cb) (r.drop cb):=by
  unfold QM;split
  ·have:r.drop cb=[]:=List.drop_eq_nil_iff.2 (by omega);rw[this];exact Seg.nil _ _ _
  ·exact hs3
 have hst:=fun w=>Xd9 b off r.length c cb hn w
 have hdl:(r.drop cb).length=r.length-cb:=List.length_drop;generalize QM off c cb=to at hst hs4;obtain⟨rd,hrd⟩:∃rd,r.drop cb=rd:=⟨_,rfl⟩;obtain⟨n,hnn⟩:∃n,r.length-cb=n:=⟨_,rfl⟩;rw[hrd]at hs4 hdl;rw[hnn]at hst hdl hi;have hn48:n≤1048576:=by omega
 have HRD:=hide hrd;have HNN:=hide hnn;clear hrd hnn hsub;generalize c -(1+cb)=cc at hst;clear hs3;go_region_law ((refine Xbj _ (by rfl) _ _ 28 (by rfl) W2.heap.size 5 i0 _ 1 1 Tryz.underlying28 hi0 hz0 hz1' hz2' rfl (by omega) (.slice none 0 0) 0 [] (by rfl) (World.ownsRow_nil _ _ _ _) ⟨b,to,none⟩ n cc (Lib.byteCells rd) (by rfl) ?a1 ?a2 ?a3 ?a4 ?a5 ?a6 ?_;(case a1=>simp[Lib.byteCells,hdl]);(case a2=>exact hs4.news);(case a3=>exact byteCells_one rd);(case a4=>unfold maxLen;omega);(case a5=>omega);(case a6=>simp);intro v1 w1 hown1 hg1 hnil1;obtain⟨q1,cp1,rfl⟩:=Q3 hown1;have hF1:=(hg1.block W1.heap.size (by show W1.heap.size<W2.heap.size;omega) (by simp[Value.ownBlock])).trans hF;have k5:w1.cell? ⟨W1.heap.size,5,none⟩=some (.slice none 0 0):=(by rw[Lib.cell_of_heap hF1];rfl);have kf5:w1.frozen? ⟨W1.heap.size,5,none⟩=false:=Lib.frozen_of_heap hF1 5))
 all_goals
  have hR1:=(hg1.block W0.heap.size (by show W0.heap.size<W2.heap.size;omega) (by simp[Value.ownBlock])).trans hR;have k0:w1.cell? ⟨W1.heap.size,0,none⟩=some (.int .i64 (x.toNat:Int)):=by rw[Lib.cell_of_heap hF1];rfl
  have k1:w1.cell? ⟨W1.heap.size,1,none⟩=some (.int .i64 (k:Int)):=by rw[Lib.cell_of_heap hF1];rfl
  have k2:w1.cell? ⟨W1.heap.size,2,none⟩=some (.bool pp):=by rw[Lib.cell_of_heap hF1];rfl
  have k3:w1.cell? ⟨W1.heap.size,3,none⟩=some (.int .i64 nsv):=by rw[Lib.cell_of_heap hF1];rfl
  have k4:w1.cell? ⟨W1.heap.size,4,none⟩=some (.int .i64 nrv):=by rw[Lib.cell_of_heap hF1];rfl
  have r0:w1.cell? ⟨W0.heap.size,0,none⟩=some (.int .i64 0):=by rw[Lib.cell_of_heap hR1];rfl
  have r1:w1.cell? ⟨W0.heap.size,1,none⟩=some (.int .i64 0):=by rw[Lib.cell_of_heap hR1];rfl
  have r2:w1.cell? ⟨W0.heap.size,2,none⟩=some (.bool false):=by rw[Lib.cell_of_heap hR1];rfl
  have r3:w1.cell? ⟨W0.heap.size,3,none⟩=some (.int .i64 0):=by rw[Lib.cell_of_heap hR1];rfl
  have r4:w1.cell? ⟨W0.heap.size,4,none⟩=some (.int .i64 0):=by rw[Lib.cell_of_heap hR1];rfl
  have r5:w1.cell? ⟨W0.heap.size,5,none⟩=some (.slice none 0 0):=by rw[Lib.cell_of_heap hR1];rfl
  have rf:∀i,w1.frozen? ⟨W0.heap.size,i,none⟩=false:=fun i=>Lib.frozen_of_heap hR1 i
  have hne:¬W0.heap.size=W1.heap.size:=by omega
  have hne':¬W1.heap.size=W0.heap.size:=by omega
  have hb3:Below w.heap.size w w1:=(hb2.drew).grown hg1 hb2.size (fun k hk=>by simp[Value.ownBlock]at hk);have HB3:=hide hb3;have HO1:=hide hown1;clear hb3 hown1 hF1 hR1 hF hR hs4 hg1 hnil1;go_wp2
  refine bodyPost_ret (v:=.tuple #[.agg #[.int .i64 (x.toNat:Int),.int .i64 (k:Int),.bool pp,.int .i64 nsv,.int .i64 nrv,.slice q1 n cp1],.int .i64 0]) (by simp[results,Tryz.results35,go_sem,r0,r1,r2,r3,r4,r5]) rfl ⟨q1,cp1,by rw[HPP.out,HNS.out,HNR.out,HNN.out],?_,?_⟩
  ·rw[HNN.out,HRD.out];have h:=Xa HO1;simp only[Nat.zero_add,List.nil_append]at h;refine Xw (b1:=W2.heap.size) ?_ (by omega);exact YH (YH (YH (YH (YH (YH (YH h _ (by show W1.heap.size<_;omega) _) _ (by show W0.heap.size<_;omega) _) _ (by show W0.heap.size<_;omega) _) _ (by show W0.heap.size<_;omega) _) _ (by show W0.heap.size<_;omega) _) _ (by show W0.heap.size<_;omega) _) _ (by show W0.heap.size<_;omega) _
  ·exact (((((((Xa HB3).setCell (by show _≤W1.heap.size;omega) _).setCell (by show _≤W0.heap.size;omega) _).setCell (by show _≤W0.heap.size;omega) _).setCell (by show _≤W0.heap.size;omega) _).setCell (by show _≤W0.heap.size;omega) _).setCell (by show _≤W0.heap.size;omega) _).setCell (by show _≤W0.heap.size;omega) _
theorem XgK {m:Int}{l:List UInt8}(h:(XK m l).2=0):∃m' k:Nat,∃x y r,m=m'∧(m'=8∨m'=128)∧l=x::y::r∧(XK m l).1=k∧1≤k∧k≤9:=by
 cases hm:XP m with
 |false=>simp[XK,hm]at h
 |true=>
  obtain⟨m',rfl,hm'⟩:=JI hm
  match l with
  | []=>simp[XK,hm]at h
  | [x]=>cases ha:XL x.toNat <;> simp[XK,hm,ha]at h
  |x::y::r=>
   cases ha:XL x.toNat with
   |false=>simp[XK,hm,ha]at h
   |true=>
    cases hk:XE m' y.toNat 1 9 with
    |none=>simp[XK,hm,ha,hk]at h
    |some k=>
     have:=Jr hk;exact⟨m',k,x,y,r,rfl,hm',rfl,by simp[XK,hm,ha,hk],by omega,by omega⟩
theorem Xgb (m k:Nat)(l:List UInt8):(XY m k l).k=k:=by
 unfold XY;by_cases h:4<k
 ·simp[h]
 ·by_cases h2:m=8
  ·simp[h,h2]
  ·simp[h,h2]
theorem XdY {m:Int}{l:List UInt8}(h2:¬(XK m l).2=0):(XK m l).1=0:=by
 cases hm:XP m with
 |false=>simp[XK,hm]
 |true=>
  match l with
  | []=>simp[XK,hm]
  | [x]=>cases ha:XL x.toNat <;> simp[XK,hm,ha]
  |x::y::r=>
   cases ha:XL x.toNat with
   |false=>simp[XK,hm,ha]
   |true=>
    cases hk:XE m.toNat y.toNat 1 9 with
    |none=>simp[XK,hm,ha,hk]
    |some k=>exact absurd (by simp[XK,hm,ha,hk]) h2
theorem Xg5 (m:Int)(p:Option Addr)(c:Nat)(l:List UInt8)(w:World)(hsrc:XU w p l)(hC:Ctl w)(hs:0<w.heap.size)(hl:l.length≤1048576)(hc:l.length≤c)(hc63:c≤9223372036854775807):
  Calls Tryz.prog 35 #[.int .i64 m,.slice p l.length c] w fun e w'=>∃q cp,e=.returned (.tuple #[.agg #[.int .i64 (Xi m l).2.a,.int .i64 (Xi m l).2.k,.bool (Xi m l).2.p,.int .i64 (Xi m l).2.ns,.int .i64 (Xi m l).2.nr,.slice q (Xi m l).2.info.length cp],.int .i64 ((Xi m l).1:Nat)])∧w'.ownsRow w.heap.size 5 1 (.slice q (Xi m l).2.info.length cp) (Xi m l).2.info.length (Lib.byteCells (Xi m l).2.info)∧((Xi m l).1≠0→q=none)∧Below w.heap.size w w':=by
 have hK:∀o,Calls Tryz.prog 83 #[.int .i64 m,.slice p l.length c] (w.alloc o) fun e w'=>e=.returned (.tuple #[.int .i64 ((XK m l).1:Nat),.int .i64 ((XK m l).2:Nat)])∧∃n,w'=(w.drewN n).alloc o:=fun o=>
  Xcu m p c l (w.alloc o) (hsrc.below ((Below.refl _ w).alloc (Nat.le_refl _) o) (Nat.le_refl _)) (hC.below ((Below.refl _ w).alloc (Nat.le_refl _) o) hs)
 have fin:∀(e:Nat),e≠0→Xi m l=(e,ZK)→(Calls Tryz.prog 35 #[.int .i64 m,.slice p l.length c] w fun r w'=>r=.returned (.tuple #[frZ,.int .i64 (e:Nat)])∧Below w.heap.size w w')→Calls Tryz.prog 35 #[.int .i64 m,.slice p l.length c] w fun e w'=>∃q cp,e=.returned (.tuple #[.agg #[.int .i64 (Xi m l).2.a,.int .i64 (Xi m l).2.k,.bool (Xi m l).2.p,.int .i64 (Xi m l).2.ns,.int .i64 (Xi m l).2.nr,.slice q (Xi m l).2.info.length cp],.int .i64 ((Xi m l).1:Nat)])∧w'.ownsRow w.heap.size 5 1 (.slice q (Xi m l).2.info.length cp) (Xi m l).2.info.length (Lib.byteCells (Xi m l).2.info)∧((Xi m l).1≠0→q=none)∧Below w.heap.size w w':=by
  intro e _ he hcall;rw[he];refine hcall.mono ?_;rintro r w' ⟨rfl,hb⟩;exact⟨none,0,rfl,World.ownsRow_nil _ _ _ _,fun _=>rfl,hb⟩
 by_cases h2:(XK m l).2=0
 ·obtain ⟨m',k,x,y,r,rfl,hm',rfl,hk,hk1,hk9⟩:=XgK h2;rw[hk,h2]at hK;have hcb1:cbN m' k=1∨cbN m' k=2:=by unfold cbN;split <;> simp
  by_cases hsh:(x::y::r).length<1+cbN m' k
  ·have hr:r=[]:=List.eq_nil_of_length_eq_zero (by simp at hsh;omega);subst hr;have hcb:cbN m' k=2:=by simp at hsh;omega
   refine fin 2 (by omega) ?_ (read_short m' k _ p c w (by simp) hk1 hcb hK);simp[Xi,h2,hk,hcb]
  ·by_cases hi:Yc m' k ((x::y::r).length -(1+cbN m' k):Nat)=false
   ·refine fin 5 (by omega) ?_ (Xls m' k _ p _ c w hk1 rfl (by omega) hi (by omega) hK);unfold Xi;simp only[h2,hk,Int.toNat_natCast];rw[if_neg (by simp),if_neg hsh,if_pos hi]
   ·have hi':Yc m' k ((y::r).length-cbN m' k:Nat)=true:=by
     have e:(y::r).length-cbN m' k=(x::y::r).length -(1+cbN m' k):=by simp;omega
     rw[e];exact eq_true_of_ne_false hi
    have hrd:Xi m' (x::y::r)=(0,{XY m' k (y::r)with a:=x.toNat,info:=(y::r).drop (cbN m' k)}):=by
     unfold Xi;simp only[h2,hk,Int.toNat_natCast];rw[if_neg (by simp),if_neg hsh,if_neg hi];have e1:(x::y::r).drop (1+cbN m' k)=(y::r).drop (cbN m' k):=by rw[Nat.add_comm];rfl
     rw[e1];rfl
    rcases hsrc with⟨_,h0⟩|⟨b,off,rfl,hb,hseg⟩
    ·simp at h0
    ·rw[hrd];have e2:((y::r).drop (cbN m' k)).length=(y::r).length-cbN m' k:=List.length_drop;have e3:=Xgb m' k (y::r);simp only[e2,e3];refine(XiP m' k _ b off c _ x (y::r) w hm' hk1 hk9 rfl (by simp at hsh ⊢;omega) hi' (by simp at hl ⊢;omega) (by simpa using hc) hc63 hseg hb (by simp) hK).mono ?_;rintro e w' ⟨q,cp,rfl,hown,hbl⟩;exact⟨q,cp,rfl,hown,fun h=>absurd rfl h,hbl⟩
 ·refine fin _ h2 ?_ (Xfj m _ (XK m l).2 w h2 ?_)
  ·simp[Xi,h2]
  ·rw[XdY h2]at hK;exact hK
theorem Jb (m a k ns nr:Int)(p:Bool)(v:Value)(w:World):
  Calls Tryz.prog 73 #[.int .i64 m,.agg #[.int .i64 a,.int .i64 k,.bool p,.int .i64 ns,.int .i64 nr,v]] w fun e w'=>e=.returned (.bool (XX m ns (X9 k)&&XX m nr (XJ k)))∧Below w.heap.size w w':=by
 have c1:=fun w=>ZR k w
 have c2:=fun w=>ZB k w
 have c3:=fun w=>Xbu m ns (X9 k) w
 have c4:=fun w=>Xbu m nr (XJ k) w
 generalize XX m nr (XJ k)=y at c4⊢;generalize XX m ns (X9 k)=x at c3⊢;generalize X9 k=s at c1 c3;generalize XJ k=r at c2 c4;cases x with
 |false=>
  go_enter Tryz.func73,Tryz.ntmps73
  go_wp2
  go_quiet (first|(go_at_call 111;exact Calls.quiet_of_same (c1 _))|(go_at_call 110;exact Calls.quiet_of_same (c3 _)))
  go_wp2
  go_ret
  exact⟨rfl,below_drewN ((Below.refl _ w).alloc (Nat.le_refl _) _) _⟩
 |true=>
  go_enter Tryz.func73,Tryz.ntmps73
  go_wp2
  go_quiet (first|(go_at_call 111;exact Calls.quiet_of_same (c1 _))|(go_at_call 112;exact Calls.quiet_of_same (c2 _))|(go_at_call_of 110 (ns);exact Calls.quiet_of_same (c3 _))|(go_at_call_of 110 (nr);exact Calls.quiet_of_same (c4 _)))
  go_wp2
  go_ret
  exact⟨rfl,below_drewN ((Below.refl _ w).alloc (Nat.le_refl _) _) _⟩
end Go.Proofs.YtkalonhalhdlaaaGreatDoor
