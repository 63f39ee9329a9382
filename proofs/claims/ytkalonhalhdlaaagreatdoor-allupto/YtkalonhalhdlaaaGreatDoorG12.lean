import Derived.Test.YtkalonhalhdlaaaGreatDoorGSmall
import Derived.Deep.CutBlock
set_option maxHeartbeats 2000000
set_option maxRecDepth 100000
namespace Go.Proofs.YtkalonhalhdlaaaGreatDoor
open Go.RowKit
theorem XfJ (m a k ns nr:Int)(p:Bool)(v:Value)(w:World)(h:(XP m&&Zt k)=false):
  Calls Tryz.prog 33 #[.int .i64 m,.agg #[.int .i64 a,.int .i64 k,.bool p,.int .i64 ns,.int .i64 nr,v]] w fun e w'=>e=.returned (.tuple #[.slice none 0 0,.int .i64 1])∧Below w.heap.size w w':=by
 have hb0:∀o,Below w.heap.size w (w.alloc o):=fun o=>(Below.refl _ w).alloc (Nat.le_refl _) o
 by_cases hm8:m=8
 ·subst hm8;by_cases hk1:k<1
  ·go_enter Tryz.func33,Tryz.ntmps33
   go_wp2
   exact bodyPost_ret (v:=.tuple #[.slice none 0 0,.int .i64 1]) (by simp[results,Tryz.results33,go_sem]) rfl ⟨rfl,hb0 _⟩
  ·have hk9:9<k:=by simp[XP,Zt]at h;omega
   go_enter Tryz.func33,Tryz.ntmps33
   go_wp2
   exact bodyPost_ret (v:=.tuple #[.slice none 0 0,.int .i64 1]) (by simp[results,Tryz.results33,go_sem]) rfl ⟨rfl,hb0 _⟩
 ·by_cases hm128:m=128
  ·subst hm128;by_cases hk1:k<1
   ·go_enter Tryz.func33,Tryz.ntmps33
    go_wp2
    exact bodyPost_ret (v:=.tuple #[.slice none 0 0,.int .i64 1]) (by simp[results,Tryz.results33,go_sem]) rfl ⟨rfl,hb0 _⟩
   ·have hk9:9<k:=by simp[XP,Zt]at h;omega
    go_enter Tryz.func33,Tryz.ntmps33
    go_wp2
    exact bodyPost_ret (v:=.tuple #[.slice none 0 0,.int .i64 1]) (by simp[results,Tryz.results33,go_sem]) rfl ⟨rfl,hb0 _⟩
  ·go_enter Tryz.func33,Tryz.ntmps33
   go_wp2
   exact bodyPost_ret (v:=.tuple #[.slice none 0 0,.int .i64 1]) (by simp[results,Tryz.results33,go_sem]) rfl ⟨rfl,hb0 _⟩
theorem Xex {m k:Int}(h:(XP m&&Zt k)=true):(m=8∨m=128)∧¬k<1∧¬9<k:=by
 simp[XP,Zt]at h;omega
theorem XfK (m a k ns nr:Int)(p:Bool)(v:Value)(w:World)(h:(XP m&&Zt k)=true)(hn:(XX m ns (X9 k)&&XX m nr (XJ k))=false):
  Calls Tryz.prog 33 #[.int .i64 m,.agg #[.int .i64 a,.int .i64 k,.bool p,.int .i64 ns,.int .i64 nr,v]] w fun e w'=>e=.returned (.tuple #[.slice none 0 0,.int .i64 1])∧Below w.heap.size w w':=by
 have hb0:∀o,Below w.heap.size w (w.alloc o):=fun o=>(Below.refl _ w).alloc (Nat.le_refl _) o
 obtain⟨hm,hk1,hk9⟩:=Xex h;have c1:=fun w=>JW k w
 have c2:=fun w=>Qs k w
 have c3:=fun w=>Zq m ns (X9 k) w
 have c4:=fun w=>Zq m nr (XJ k) w
 generalize XX m nr (XJ k)=y at c4 hn;generalize XX m ns (X9 k)=x at c3 hn;generalize X9 k=s at c1 c3;generalize XJ k=r at c2 c4;clear h;have hmx:((m != 8)&&(m != 128))=false:=by rcases hm with rfl|rfl <;> rfl
 cases x with
 |false=>
  rcases hm with rfl|rfl
  all_goals
   go_enter Tryz.func33,Tryz.ntmps33
   go_wp2_with fail
   refine(c1 _).mono ?_;rintro e W1 ⟨rfl,rfl⟩;go_wp2_with fail
   refine(c2 _).mono ?_;rintro e W1 ⟨rfl,rfl⟩;go_wp2_with fail
   refine(c3 _).mono ?_;rintro e W1 ⟨rfl,rfl⟩;go_wp2_with fail
   refine(c4 _).mono ?_;rintro e W1 ⟨rfl,rfl⟩;go_wp2
   exact bodyPost_ret (v:=.tuple #[.slice none 0 0,.int .i64 1]) (by simp[results,Tryz.results33,go_sem]) rfl ⟨rfl,hb0 _⟩
 |true=>
  simp at hn;subst hn;rcases hm with rfl|rfl
  all_goals
   go_enter Tryz.func33,Tryz.ntmps33
   go_wp2_with fail
   refine(c1 _).mono ?_;rintro e W1 ⟨rfl,rfl⟩;go_wp2_with fail
   refine(c2 _).mono ?_;rintro e W1 ⟨rfl,rfl⟩;go_wp2_with fail
   refine(c3 _).mono ?_;rintro e W1 ⟨rfl,rfl⟩;go_wp2_with fail
   refine(c4 _).mono ?_;rintro e W1 ⟨rfl,rfl⟩;go_wp2
   exact bodyPost_ret (v:=.tuple #[.slice none 0 0,.int .i64 1]) (by simp[results,Tryz.results33,go_sem]) rfl ⟨rfl,hb0 _⟩
theorem Xkr {a:Int}(h:XL a=false):(a != 1)=true∧(a != 3)=true:=by
 simp[XL]at h;simp[h.1,h.2]
theorem XfI (m a k ns nr:Int)(p:Bool)(v:Value)(w:World)(h:(XP m&&Zt k)=true)(hn:(XX m ns (X9 k)&&XX m nr (XJ k))=true)(ha:XL a=false):
  Calls Tryz.prog 33 #[.int .i64 m,.agg #[.int .i64 a,.int .i64 k,.bool p,.int .i64 ns,.int .i64 nr,v]] w fun e w'=>e=.returned (.tuple #[.slice none 0 0,.int .i64 3])∧Below w.heap.size w w':=by
 have hb0:∀o,Below w.heap.size w (w.alloc o):=fun o=>(Below.refl _ w).alloc (Nat.le_refl _) o
 obtain⟨hm,hk1,hk9⟩:=Xex h;obtain⟨ha1,ha3⟩:=Xkr ha;have c1:=fun w=>JW k w
 have c2:=fun w=>Qs k w
 have c3:=fun w=>Zq m ns (X9 k) w
 have c4:=fun w=>Zq m nr (XJ k) w
 simp only[Bool.and_eq_true]at hn;rw[hn.1]at c3;rw[hn.2]at c4;clear hn h;generalize X9 k=s at c1 c3;generalize XJ k=r at c2 c4;rcases hm with rfl|rfl
 all_goals
  go_enter Tryz.func33,Tryz.ntmps33
  go_wp2_with fail
  refine(c1 _).mono ?_;rintro e W1 ⟨rfl,rfl⟩;go_wp2_with fail
  refine(c2 _).mono ?_;rintro e W1 ⟨rfl,rfl⟩;go_wp2_with fail
  refine(c3 _).mono ?_;rintro e W1 ⟨rfl,rfl⟩;go_wp2_with fail
  refine(c4 _).mono ?_;rintro e W1 ⟨rfl,rfl⟩;go_wp2
  exact bodyPost_ret (v:=.tuple #[.slice none 0 0,.int .i64 3]) (by simp[results,Tryz.results33,go_sem]) rfl ⟨rfl,hb0 _⟩
theorem XfL (m a k ns nr:Int)(p:Bool)(q:Option Addr)(n c:Nat)(w:World)(h:(XP m&&Zt k)=true)(hn:(XX m ns (X9 k)&&XX m nr (XJ k))=true)(ha:XL a=true)(hi:Yc m k n=false):
  Calls Tryz.prog 33 #[.int .i64 m,.agg #[.int .i64 a,.int .i64 k,.bool p,.int .i64 ns,.int .i64 nr,.slice q n c]] w fun e w'=>e=.returned (.tuple #[.slice none 0 0,.int .i64 5])∧Below w.heap.size w w':=by
 have hb0:∀o,Below w.heap.size w (w.alloc o):=fun o=>(Below.refl _ w).alloc (Nat.le_refl _) o
 obtain⟨hm,hk1,hk9⟩:=Xex h;have c5:=fun w=>Xa1 m k n w
 rw[hi]at c5;have c1:=fun w=>JW k w
 have c2:=fun w=>Qs k w
 have c3:=fun w=>Zq m ns (X9 k) w
 have c4:=fun w=>Zq m nr (XJ k) w
 simp only[Bool.and_eq_true]at hn;rw[hn.1]at c3;rw[hn.2]at c4;clear hn h;generalize X9 k=s at c1 c3;generalize XJ k=r at c2 c4;have ha':a=1∨a=3:=by simpa[XL]using ha
 clear ha hi;rcases ha' with rfl|rfl
 all_goals
  rcases hm with rfl|rfl
  all_goals
   go_enter Tryz.func33,Tryz.ntmps33
   go_wp2_with fail
   refine(c1 _).mono ?_;rintro e W1 ⟨rfl,rfl⟩;go_wp2_with fail
   refine(c2 _).mono ?_;rintro e W1 ⟨rfl,rfl⟩;go_wp2_with fail
   refine(c3 _).mono ?_;rintro e W1 ⟨rfl,rfl⟩;go_wp2_with fail
   refine(c4 _).mono ?_;rintro e W1 ⟨rfl,rfl⟩;go_wp2_with fail
   refine(c5 _).mono ?_;rintro e W1 ⟨rfl,rfl⟩;go_wp2
   exact bodyPost_ret (v:=.tuple #[.slice none 0 0,.int .i64 5]) (by simp[results,Tryz.results33,go_sem]) rfl ⟨rfl,hb0 _⟩
theorem Xm7 (W:World)(base:Nat)(x:UInt8)(h:base≤W.heap.size):(W.alloc (.cells #[.int .u8 (x.toNat:Int)] 5)).ownsRow base 5 1 (.slice (some ⟨W.heap.size,0,none⟩) 1 1) 1 (Lib.byteCells [x]):=
 ⟨rfl,.inr ⟨W.heap.size,1,_,rfl,h,Array.getElem?_push_size,Nat.le_refl _,by unfold maxLen;omega,rfl,rfl⟩⟩
def Qn (w:World)(q:Option Addr)(l:List UInt8):Prop:=(q=none∧l=[])∨∃ad:Addr,q=some ad∧∀j u,(Lib.byteCells l)[j]?=some u→w.cell? (ad.add j)=some u
theorem XU.e {w:World}{q:Option Addr}{l:List UInt8}(h:XU w q l):Qn w q l:=by
 rcases h with h|⟨b,off,e,_,h⟩
 ·exact .inl h
 ·exact .inr ⟨⟨b,off,none⟩,e,h.news⟩
theorem Qn.below {w w':World}{q:Option Addr}{l:List UInt8}(h:Qn w q l){B:Nat}(hb:Below B w w')(hB:w.heap.size≤B):Qn w' q l:=by
 rcases h with h|⟨ad,e,h⟩
 ·exact .inl h
 ·refine .inr ⟨ad,e,fun j u hj=> ?_⟩;have hc:=h j u hj;have hlt:=World.block_lt_of_cell? w _ hc;rw[hb.cell (p:=ad.add j) (Nat.lt_of_lt_of_le hlt hB)];exact hc
theorem Qn.conv {w:World}{p:Option Addr}{l:List UInt8}(h:Qn w p l)(cap:Nat):(convert 28 9 (.slice p l.length cap)).run Tryz.prog w=.ok (.string ⟨l.toArray⟩) w:=by
 have hin:Lib.BytesIn w p l.length (nums l):=by
  rcases h with⟨rfl,rfl⟩|⟨ad,rfl,hseg⟩
  ·exact Lib.BytesIn.nil _ _ _
  ·refine Lib.BytesIn.of_cells fun i hi=> ?_
   have hl:(Lib.byteCells l)[i]?=some (.int .u8 ((l.getD i 0).toNat:Int)):=by
    simp[Lib.byteCells,List.getD,hi]
   rw[hseg i _ hl,nums_getD l i hi]
 have:=hin.convert (nums_length _) cap 28 5 9 Tryz.underlying28 Tryz.underlying5 Tryz.underlying9;rw[this];have e:strOfNums (nums l)=⟨(Lib.bytesOf (nums l)).toArray⟩:=rfl;rw[e,JR]
theorem Xm2 {m:Int}(h:XP m=false):(m != 8)=true∧(m != 128)=true:=by
 simp[XP]at h;simp[h.1,h.2]
theorem Xib (m:Int)(v:Value)(w:World)(h:XP m=false):
  Calls Tryz.prog 36 #[.int .i64 m,v] w fun e w'=>e=.returned (.tuple #[frZ,.int .i64 1])∧Below w.heap.size w w':=by
 obtain⟨h1,h2⟩:=Xm2 h;go_enter Tryz.func36,Tryz.ntmps36
 go_wp2
 exact bodyPost_ret (v:=.tuple #[frZ,.int .i64 1]) (by simp[results,Tryz.results36,go_sem,frZ]) rfl ⟨rfl,(Below.refl _ w).alloc (Nat.le_refl _) _⟩
theorem Xic (m:Int)(p:Option Addr)(c:Nat)(w:World)(h:XP m=true):
  Calls Tryz.prog 36 #[.int .i64 m,.slice p 0 c] w fun e w'=>e=.returned (.tuple #[frZ,.int .i64 2])∧Below w.heap.size w w':=by
 obtain⟨m',rfl,hm⟩:=JI h;rcases hm with rfl|rfl
 all_goals
  go_enter Tryz.func36,Tryz.ntmps36
  go_wp2
  exact bodyPost_ret (v:=.tuple #[frZ,.int .i64 2]) (by simp[results,Tryz.results36,go_sem,frZ]) rfl ⟨rfl,(Below.refl _ w).alloc (Nat.le_refl _) _⟩
theorem XiX {x:UInt8}(h:XL x.toNat=false):((x.toNat:Int) != 1)=true∧((x.toNat:Int) != 3)=true:=by
 simp only[XL,Bool.or_eq_false_iff,decide_eq_false_iff_not]at h;constructor
 ·simp;omega
 ·simp;omega
theorem Xg9 (m:Int)(b off n c:Nat)(x:UInt8)(w:World)(h:XP m=true)(hn:0<n)(hx:w.cell? ⟨b,off,none⟩=some (.int .u8 (x.toNat:Int)))(hb:b<w.heap.size)(ha:XL x.toNat=false):
  Calls Tryz.prog 36 #[.int .i64 m,.slice (some ⟨b,off,none⟩) n c] w fun e w'=>e=.returned (.tuple #[frZ,.int .i64 3])∧Below w.heap.size w w':=by
 obtain⟨m',rfl,hm⟩:=JI h;obtain⟨h1,h3⟩:=XiX ha;have hx8:x.toNat<256:=x.toNat_lt;have hn1:((n:Int)==0)=false:=by simp;omega
 have hn2:(0:Int)<(n:Int):=by omega
 have hne:¬b=w.heap.size:=by omega
 have hx1:∀o,(w.alloc o).cell? ⟨b,off,none⟩=some (.int .u8 (x.toNat:Int)):=fun o=>by rw[((Below.refl w.heap.size w).alloc (Nat.le_refl _) o).cell (p:=⟨b,off,none⟩) hb];exact hx
 clear ha;rcases hm with rfl|rfl
 all_goals
  go_enter Tryz.func36,Tryz.ntmps36
  go_wp2
  exact bodyPost_ret (v:=.tuple #[frZ,.int .i64 3]) (by simp[results,Tryz.results36,go_sem,frZ]) rfl ⟨rfl,(Below.refl _ w).alloc (Nat.le_refl _) _⟩
theorem Xid (m:Int)(b off c:Nat)(x:UInt8)(w:World)(h:XP m=true)(hx:w.cell? ⟨b,off,none⟩=some (.int .u8 (x.toNat:Int)))(hb:b<w.heap.size)(ha:XL x.toNat=true):
  Calls Tryz.prog 36 #[.int .i64 m,.slice (some ⟨b,off,none⟩) 1 c] w fun e w'=>e=.returned (.tuple #[frZ,.int .i64 2])∧Below w.heap.size w w':=by
 obtain⟨m',rfl,hm⟩:=JI h;have hx8:x.toNat<256:=x.toNat_lt;have hne:¬b=w.heap.size:=by omega
 have hxx:x.toNat=1∨x.toNat=3:=by
  simp only[XL,Bool.or_eq_true,decide_eq_true_eq]at ha;omega
 have hx1:∀o,(w.alloc o).cell? ⟨b,off,none⟩=some (.int .u8 (x.toNat:Int)):=fun o=>by rw[((Below.refl w.heap.size w).alloc (Nat.le_refl _) o).cell (p:=⟨b,off,none⟩) hb];exact hx
 clear ha hx8;rcases hxx with e|e
 all_goals
  rw[e]at hx1 hx;clear e;rcases hm with rfl|rfl
  all_goals
   go_enter Tryz.func36,Tryz.ntmps36
   go_wp2
   exact bodyPost_ret (v:=.tuple #[frZ,.int .i64 2]) (by simp[results,Tryz.results36,go_sem,frZ]) rfl ⟨rfl,(Below.refl _ w).alloc (Nat.le_refl _) _⟩
end Go.Proofs.YtkalonhalhdlaaaGreatDoor
