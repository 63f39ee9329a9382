import Derived.Test.YtkalonhalhdlaaaGreatDoorG03
set_option maxHeartbeats 4000000
set_option maxRecDepth 1000000
namespace Go.Proofs.YtkalonhalhdlaaaGreatDoor
open Go.RowKit
theorem sizeBuilder:(Tryz.prog.info? 109).map (·.size)=some 2:=by kernel_rfl
theorem liesBuilder:liesAt Tryz.prog Tryz.prog.depth 109 (2 / Tryz.prog.cellsOf 109) 0 109 1=true:=by kernel_rfl
theorem Xen (b:Nat)(w:World)(h0:w.cell? ⟨b,0,none⟩=some (.pointer (some ⟨b,0,none⟩))):
  Calls Tryz.prog 104 #[.pointer (some ⟨b,0,none⟩)] w fun e w'=>e=.returned (.tuple #[])∧w'=w:=by
 obtain⟨j,hj,_⟩:=Option.map_eq_some_iff.1 sizeBuilder;go_enter Tryz.func104,Tryz.ntmps104
 go_wp2
 rw[Lib.run_neq_ptr_same w _ Tryz.underlying107 hj];go_wp2
 go_end0
 exact⟨rfl,rfl⟩
theorem XdF (b:Nat)(w:World)(h0:w.cell? ⟨b,0,none⟩=some (.pointer none))(hsh:w.shape? b=some (109,2))(hfz:w.frozen? ⟨b,0,none⟩=false):
  Calls Tryz.prog 104 #[.pointer (some ⟨b,0,none⟩)] w fun e w'=>e=.returned (.tuple #[])∧w'=w.setCell ⟨b,0,none⟩ (.pointer (some ⟨b,0,none⟩)):=by
 obtain⟨j,hj,hjs⟩:=Option.map_eq_some_iff.1 sizeBuilder;go_enter Tryz.func104,Tryz.ntmps104
 go_wp2
 rw[Lib.run_to_unsafe w ⟨b,0,none⟩ Tryz.underlying107 Tryz.underlying160 hj (by rw[hjs];decide) hsh (Nat.zero_lt_succ 1)];simp only[Result.andThen];rw[Oper.upon_value];go_wp2
 rw[run_callFunc_extern Tryz.func137 (by kernel_rfl) (by kernel_rfl) (by kernel_rfl) (e:=Extern.AbiNoEscape.same) (by kernel_rfl)];rw[Lib.run_noEscape];simp only[Result.andThen];rw[Oper.upon_value];go_wp2
 rw[Lib.run_from_unsafe w ⟨b,0,none⟩ Tryz.underlying160 Tryz.underlying107 hj hsh liesBuilder];simp only[Result.andThen];rw[Oper.upon_value];go_wp2
 go_end0
 exact⟨rfl,rfl⟩
theorem Xat (B b:Nat)(bs:List Value)(w:World)(h:Lib.IsBuilderF 109 5 B b bs w):
  Calls Tryz.prog 104 #[.pointer (some ⟨b,0,none⟩)] w fun e w'=>e=.returned (.tuple #[])∧(Lib.BuilderAtF 109 5 B b (.pointer (some ⟨b,0,none⟩)) bs w'∧Below B w w'∧Lib.OthersKept 5 (some b) w w'):=by
 rcases h with h|h
 ·refine (XdF b w h.cell0 h.shape h.frozen0).mono ?_;rintro e w' ⟨rfl,rfl⟩;exact⟨rfl,h.used _,(Below.refl B w).setCell (p:=⟨b,0,none⟩) h.1 _,(Lib.OthersKept.refl _ _ w).setCell ⟨b,0,none⟩ rfl _⟩
 ·refine (Xen b w h.cell0).mono ?_;rintro e w' ⟨rfl,rfl⟩;exact⟨rfl,h,Below.refl B _,Lib.OthersKept.refl _ _ _⟩
theorem Xb9 (B b:Nat)(bs:List Value)(c:Int)(w:World)(h:Lib.IsBuilderF 109 5 B b bs w)(hlen:bs.length+1≤140737488355328)(hBw:B≤w.heap.size):
  Calls Tryz.prog 106 #[.pointer (some ⟨b,0,none⟩),.int .u8 c] w fun e w'=>e=.returned .nilIface∧(Lib.BuilderAtF 109 5 B b (.pointer (some ⟨b,0,none⟩)) (bs++[.int .u8 c]) w'∧Below B w w'∧Lib.OthersKept 5 (some b) w w'):=by
 obtain⟨i0,hi,hz0,hz1,hz2⟩:=info_parts infoByte;go_enter Tryz.func106,Tryz.ntmps106
 go_wp2_with (go_at_call 104;refine(Xat B b bs _ h).mono ?_)
 rintro e w1 ⟨rfl,h1,hb1,hk1⟩;obtain⟨hB,v,hbk,hown,hne⟩:=h1;have c0:w1.cell? ⟨b,0,none⟩=some (.pointer (some ⟨b,0,none⟩)):=by rw[Lib.cell_of_heap hbk];rfl
 have c1:w1.cell? ⟨b,1,none⟩=some v:=by rw[Lib.cell_of_heap hbk];rfl
 go_wp2_with (at_builtin;refine wpList_append_ownF _ rfl _ _ 28 rfl B 5 i0 (.int .u8 0) 1 1 Tryz.underlying28 hi hz0 hz1 hz2 rfl (by decide) _ _ _ rfl (hown.alloc _) ⟨w1.heap.size,0,none⟩ 1 1 [.int .u8 c] rfl rfl ?c1 ?c2 ?c3 ?c4 ?c5 ?_)
 case c1=>
  intro j u hj
  match j,hj with
  |0,hj=>simp at hj;subst hj;simp[Addr.add]
 case c2=>intro u hu;simp at hu;subst hu;rfl
 case c3=>unfold maxLen;omega
 case c4=>omega
 case c5=>have:=hb1.size;simp;omega
 intro v' w2 hown' hgrow _
 have hlt:b<w1.heap.size:=by
  rcases Nat.lt_or_ge b w1.heap.size with h'|h'
  ·exact h'
  ·simp[Array.getElem?_eq_none h']at hbk
 have hb2:w2.heap[b]?=some (.cells #[.pointer (some ⟨b,0,none⟩),v] 109 (0,0)):=by
  rw[hgrow.block b (by simp;omega) (fun e=>hne e.symm),Lib.alloc_old w1 _ b hlt];exact hbk
 have d0:w2.cell? ⟨b,0,none⟩=some (.pointer (some ⟨b,0,none⟩)):=by rw[Lib.cell_of_heap hb2];rfl
 have d1:w2.cell? ⟨b,1,none⟩=some v:=by rw[Lib.cell_of_heap hb2];rfl
 have f1:w2.frozen? ⟨b,1,none⟩=false:=Lib.frozen_of_heap hb2 1
 obtain⟨g,cap,rfl⟩:∃g cap,v'=.slice (some ⟨g,0,none⟩) (bs.length+1) cap:=by
  rcases hown'.2 with⟨_,h0⟩|⟨g,cap,cur,fz,hv,_⟩
  ·omega
  ·exact ⟨g,cap,hv⟩
 go_wp2
 go_ret
 refine⟨rfl,?_,?_,((hk1.alloc _).grown hgrow (Lib.ownsRowF_kind (hown.alloc _))).setCell ⟨b,1,none⟩ rfl _⟩
 ·exact Lib.BuilderAtF.put (T:=109) (e:=5) hB hb2 (bs':=bs++[.int .u8 c]) (by simpa using hown') (by decide)
 ·exact ((hb1.alloc (by have:=hb1.size;omega) _).grown hgrow (by have:=hb1.size;simp;omega) (fun k hk=>(hown.lt k hk).1)).setCell (p:=⟨b,1,none⟩) hB _
theorem QT (B b:Nat)(bs:List Value)(s:ByteArray)(w:World)(h:Lib.IsBuilderF 109 5 B b bs w)(hlen:bs.length+s.size≤140737488355328)(hBw:B≤w.heap.size):
  Calls Tryz.prog 63 #[.pointer (some ⟨b,0,none⟩),.string s] w fun e w'=>e=.returned (.tuple #[.int .i64 s.size,.nilIface])∧(Lib.BuilderAtF 109 5 B b (.pointer (some ⟨b,0,none⟩)) (bs++Lib.strCells s) w'∧Below B w w'∧Lib.OthersKept 5 (some b) w w'):=by
 obtain⟨i0,hi,hz0,hz1,hz2⟩:=info_parts infoByte;go_enter Tryz.func63,Tryz.ntmps63
 go_wp2_with (go_at_call 104;refine(Xat B b bs _ h).mono ?_)
 rintro e w1 ⟨rfl,h1,hb1,hk1⟩;obtain⟨hB,v,hbk,hown,hne⟩:=h1;have c0:w1.cell? ⟨b,0,none⟩=some (.pointer (some ⟨b,0,none⟩)):=by rw[Lib.cell_of_heap hbk];rfl
 have c1:w1.cell? ⟨b,1,none⟩=some v:=by rw[Lib.cell_of_heap hbk];rfl
 go_wp2_with (at_builtin;refine Lib.wpList_append_own_stringF _ rfl _ _ 28 9 rfl B 5 i0 Tryz.underlying28 Tryz.underlying9 hi hz0 hz1 hz2 _ _ _ rfl hown s rfl ?c3 ?c4 ?c5 ?_)
 case c3=>unfold maxLen;omega
 case c4=>omega
 case c5=>have:=hb1.size;omega
 intro v' w2 hown' hgrow _
 have hlt:b<w1.heap.size:=by
  rcases Nat.lt_or_ge b w1.heap.size with h'|h'
  ·exact h'
  ·simp[Array.getElem?_eq_none h']at hbk
 have hb2:w2.heap[b]?=some (.cells #[.pointer (some ⟨b,0,none⟩),v] 109 (0,0)):=by
  rw[hgrow.block b hlt (fun e=>hne e.symm)];exact hbk
 have d0:w2.cell? ⟨b,0,none⟩=some (.pointer (some ⟨b,0,none⟩)):=by rw[Lib.cell_of_heap hb2];rfl
 have d1:w2.cell? ⟨b,1,none⟩=some v:=by rw[Lib.cell_of_heap hb2];rfl
 have f1:w2.frozen? ⟨b,1,none⟩=false:=Lib.frozen_of_heap hb2 1
 obtain⟨ao,n',cap,rfl⟩:∃ao n' cap,v'=.slice ao n' cap:=by
  rcases hown'.2 with⟨hv,_⟩|⟨g,cap,cur,fz,hv,_⟩
  ·exact ⟨_,_,_,hv⟩
  ·exact ⟨_,_,_,hv⟩
 go_wp2
 go_ret2
 refine⟨rfl,?_,?_,(hk1.grown hgrow (Lib.ownsRowF_kind hown)).setCell ⟨b,1,none⟩ rfl _⟩
 ·exact Lib.BuilderAtF.put (T:=109) (e:=5) hB hb2 (bs':=bs++Lib.strCells s) (by simpa[Lib.strCells_length]using hown') (by decide)
 ·exact (hb1.grown hgrow (by have:=hb1.size;omega) (fun k hk=>(hown.lt k hk).1)).setCell (p:=⟨b,1,none⟩) hB _
theorem Xc8 (B:Nat)(v:Value)(n:Nat)(xs:List Value)(r:Int)(h0:0≤r)(h1:r≤127)(w:World)(hown:w.ownsRowF B 5 1 v n xs)(hlen:n+4≤140737488355328)(hBw:B≤w.heap.size):
  Calls Tryz.prog 138 #[v,.int .i32 r] w fun e w'=>∃v',e=.returned v'∧w'.ownsRowF B 5 1 v' (n+1) (xs++[.int .u8 r])∧∃o,(w.alloc o).grownBy w' v.ownBlock:=by
 obtain⟨i0,hi,hz0,hz1,hz2⟩:=info_parts infoByte;go_enter Tryz.func138,Tryz.ntmps138
 go_wp2_with (at_builtin;refine wpList_append_ownF _ rfl _ _ 28 rfl B 5 i0 (.int .u8 0) 1 1 Tryz.underlying28 hi hz0 hz1 hz2 rfl (by decide) _ _ _ rfl (hown.alloc _) ⟨w.heap.size,0,none⟩ 1 1 [.int .u8 r] rfl rfl ?c1 ?c2 ?c3 ?c4 ?c5 ?_)
 all_goals first
  |(intro v' w2 hown' hgrow _;go_wp2;go_ret;exact⟨_,rfl,hown',_,hgrow⟩)
  |(unfold maxLen;omega)
  |omega
  |(simp;omega)
  |rfl
  |(intro u hu;simp at hu;subst hu;rfl)
  |(intro j u hj
    match j,hj with
    |0,hj=>simp at hj;subst hj;simp[Addr.add]
    |(j+1),hj=>simp at hj)
theorem J3 (B b:Nat)(bs:List Value)(r:Int)(hr0:0≤r)(hr1:r≤127)(w:World)(h:Lib.IsBuilderF 109 5 B b bs w)(hlen:bs.length+4≤140737488355328)(hBw:B≤w.heap.size):
  Calls Tryz.prog 105 #[.pointer (some ⟨b,0,none⟩),.int .i32 r] w fun e w'=>e=.returned (.tuple #[.int .i64 1,.nilIface])∧(Lib.BuilderAtF 109 5 B b (.pointer (some ⟨b,0,none⟩)) (bs++[.int .u8 r]) w'∧Below B w w'∧Lib.OthersKept 5 (some b) w w'):=by
 go_enter Tryz.func105,Tryz.ntmps105
 go_wp2_with (go_at_call 104;refine(Xat B b bs _ h).mono ?_)
 rintro e w1 ⟨rfl,h1,hb1,hk1⟩;obtain⟨hB,v,hbk,hown,hne⟩:=h1
 obtain⟨ao,cap,rfl⟩:∃ao cap,v=.slice ao bs.length cap:=by
  rcases hown.2 with⟨hv,h0⟩|⟨g,cap,cur,fz,hv,_⟩
  ·exact ⟨none,0,by rw[hv,h0]⟩
  ·exact ⟨_,_,hv⟩
 have c0:w1.cell? ⟨b,0,none⟩=some (.pointer (some ⟨b,0,none⟩)):=by rw[Lib.cell_of_heap hbk];rfl
 have c1:w1.cell? ⟨b,1,none⟩=some (.slice ao bs.length cap):=by rw[Lib.cell_of_heap hbk];rfl
 go_wp2_with (go_at_call 138;refine(Xc8 B _ bs.length bs r hr0 hr1 _ hown hlen (by have:=hb1.size;omega)).mono ?_)
 rintro e w2 ⟨v',rfl,hown',o,hgrow⟩
 have hlt:b<w1.heap.size:=by
  rcases Nat.lt_or_ge b w1.heap.size with h'|h'
  ·exact h'
  ·simp[Array.getElem?_eq_none h']at hbk
 have hb2:w2.heap[b]?=some (.cells #[.pointer (some ⟨b,0,none⟩),.slice ao bs.length cap] 109 (0,0)):=by
  rw[hgrow.block b (by simp;omega) (fun e=>hne e.symm),Lib.alloc_old w1 _ b hlt];exact hbk
 have d0:w2.cell? ⟨b,0,none⟩=some (.pointer (some ⟨b,0,none⟩)):=by rw[Lib.cell_of_heap hb2];rfl
 have d1:w2.cell? ⟨b,1,none⟩=some (.slice ao bs.length cap):=by rw[Lib.cell_of_heap hb2];rfl
 have f1:w2.frozen? ⟨b,1,none⟩=false:=Lib.frozen_of_heap hb2 1
 obtain⟨g,cap',rfl⟩:∃g cap',v'=.slice (some ⟨g,0,none⟩) (bs.length+1) cap':=by
  rcases hown'.2 with⟨_,h0⟩|⟨g,cap',cur,fz,hv,_⟩
  ·omega
  ·exact ⟨g,cap',hv⟩
 go_wp2
 go_ret2
 refine⟨?_,?_,?_,((hk1.alloc _).grown hgrow (Lib.ownsRowF_kind (hown.alloc _))).setCell ⟨b,1,none⟩ rfl _⟩
 ·have e:((bs.length:Int)+1 -(bs.length:Int))=1:=by omega
  simp[e]
 ·exact Lib.BuilderAtF.put (T:=109) (e:=5) hB hb2 (bs':=bs++[.int .u8 r]) (by simpa using hown') (by decide)
 ·exact ((hb1.alloc (by have:=hb1.size;omega) _).grown hgrow (by have:=hb1.size;simp;omega) (fun k hk=>(hown.lt k hk).1)).setCell (p:=⟨b,1,none⟩) hB _
end Go.Proofs.YtkalonhalhdlaaaGreatDoor
namespace Go.Proofs.YtkalonhalhdlaaaGreatDoor
def Jy (c x:Nat):Nat:=if c%2=x%2 then c / 2 else(c / 2) ^^^ 33800
def QV:Nat→Nat→Nat→Nat
 |0,c,_=>c
 |n+1,c,x=>QV n (Jy c x) (x / 2)
def Qj:Nat→List UInt8→Nat
 |c,[]=>c
 |c,x::r=>Qj (QV 8 c x.toNat) r
def ZY:Nat:=65535
theorem XeX:ZY<65536:=by unfold ZY;omega
def ZQ (l:List UInt8):Nat:=ZY-Qj ZY l
theorem Xmy (c:Nat)(l:List UInt8):Qj c (l.drop l.length)=c:=by rw[List.drop_length];rfl
theorem XiS (l:List UInt8)(k c:Nat)(hk:k=l.length)(h:Qj c (l.drop k)=Qj ZY l):ZQ l=65535-c:=by
 subst hk;rw[Xmy]at h;show ZY-Qj ZY l=65535-c
 rw[← h];rfl
theorem XbA (l:List UInt8):ZQ l≤65535:=Nat.sub_le _ _
def Y4 (l:List UInt8):List UInt8:=[UInt8.ofNat (ZQ l%256),UInt8.ofNat (ZQ l / 256)]
def Y7:Nat→Nat→List Bool
 |0,_=> []
 |n+1,x=>(x%2==1)::Y7 n (x / 2)
theorem ZU (n x:Nat):(Y7 n x).length=n:=by
 induction n generalizing x with
 |zero=>rfl
 |succ n ih=>simp[Y7,ih]
def XH:List UInt8→List Bool
 | []=> []
 |x::r=>Y7 8 x.toNat++XH r
theorem YD (l:List UInt8):(XH l).length=8*l.length:=by
 induction l with
 |nil=>rfl
 |cons x r ih=>simp[XH,ZU,ih];omega
theorem Xaw (a b:List UInt8):XH (a++b)=XH a++XH b:=by
 induction a with
 |nil=>rfl
 |cons x r ih=>simp[XH,ih]
def YX:Nat→List Bool→List Bool
 |_,[]=> []
 |_,false::r=>false::YX 0 r
 |n,true::r=>if n+1=5 then true::false::YX 0 r else true::YX (n+1) r
theorem Xb8 (n:Nat)(l:List Bool):(YX n l).length≤2*l.length:=by
 induction l generalizing n with
 |nil=>simp[YX]
 |cons b r ih=>
  cases b
  ·have:=ih 0;simp[YX];omega
  ·have h0:=ih 0;have h1:=ih (n+1);unfold YX;split <;> simp <;> omega
def QQ:List Bool:=[false,true,true,true,true,true,true,false]
def Jg (f:List UInt8):List Bool:=YX 0 (XH f++XH (Y4 f))
def Qd:List (List UInt8)→List Bool
 | []=> []
 |f::r=>Jg f++QQ++Qd r
def Jt (fs:List (List UInt8)):List Bool:=QQ++Qd fs
def chr (b:Bool):UInt8:=if b then 49 else 48
def txt (l:List Bool):List UInt8:=l.map chr
theorem QG (a b:List Bool):txt (a++b)=txt a++txt b:=by simp[txt]
theorem Y5 (a:List Bool):(txt a).length=a.length:=by simp[txt]
theorem Xau (f:List UInt8):(Jg f).length≤16*f.length+32:=by
 have:=Xb8 0 (XH f++XH (Y4 f));simp[YD,Y4]at this;unfold Jg;simp[Y4];omega
theorem Xbr (fs:List (List UInt8))(h:∀f∈fs,f.length≤64):(Qd fs).length≤1064*fs.length:=by
 induction fs with
 |nil=>simp[Qd]
 |cons f r ih=>
  have h1:=Xau f;have h2:=h f (by simp);have h3:=ih fun g hg=>h g (by simp[hg])
  simp[Qd,QQ];omega
structure HS where
 on:Bool
 ones:Nat
 len:Nat
 held:List UInt8
def fresh:HS:=⟨false,0,0,List.replicate 66 0⟩
def shB (x:UInt8)(b:Bool):UInt8:=UInt8.ofNat (x.toNat / 2+(if b then 128 else 0))
def JB (n:Nat):Nat:=if n=542 then 534 else n
def ZE (h:HS)(b:Bool):HS:=
 if h.on then {h with len:=JB h.len+1,held:=if JB h.len / 8<66 then h.held.set (JB h.len / 8) (shB (h.held.getD (JB h.len / 8) 0) b)else h.held} else h
def YS (held:List UInt8)(n:Nat):Nat×List UInt8:=
 if n<32 then(3,[])
 else if n%8≠0 then(4,[])
 else if 528<n then(6,[])
 else if(held.take (n / 8)).drop (n / 8-2)=Y4 (held.take (n / 8-2))then(1,held.take (n / 8-2))else(5,[])
def Zb (h:HS):HS×Option (Nat×List UInt8):=
 ({h with on:=false,len:=0},if h.on=true∧6<h.len then some (2,[])else none)
def Qq (h:HS):HS×Option (Nat×List UInt8):=
 ({h with on:=true,len:=0},if h.on=true∧6<h.len then some (YS h.held (h.len-6))else none)
def upH (h:HS):HS:={h with ones:=if h.ones<7 then h.ones+1 else h.ones}
def Xbf (h:HS):HS×Option (Nat×List UInt8):=
 if h.ones=7 then Zb h else if h.ones≤5 then(ZE h true,none)else(h,none)
def Z5 (h:HS):HS×Option (Nat×List UInt8):=Xbf (upH h)
def Yz (h:HS):HS×Option (Nat×List UInt8):=
 if h.ones=6 then Qq h else if h.ones=5 then(h,none)else(ZE h false,none)
def Yx (h:HS)(b:Bool):HS×Option (Nat×List UInt8):=
 if b then Z5 h else({(Yz h).1 with ones:=0},(Yz h).2)
def Yv:HS→List Bool→HS×List (Nat×List UInt8)
 |h,[]=>(h,[])
 |h,b::r=>((Yv (Yx h b).1 r).1,(Yx h b).2.toList++(Yv (Yx h b).1 r).2)
def HS.ok (h:HS):Prop:=h.held.length=66∧h.ones≤7∧h.len≤542
theorem Xoc (n:Nat)(h:n≤542):JB n<542:=by unfold JB;split <;> omega
theorem XiD (h:HS)(b:Bool)(k:h.ok):(ZE h b).ok:=by
 obtain⟨h1,h2,h3⟩:=k;have:=Xoc h.len h3;unfold ZE;split
 ·refine ⟨?_,h2,?_⟩
  ·simp only;split <;> simp[h1]
  ·simp only;omega
 ·exact ⟨h1,h2,h3⟩
theorem Xme (h:HS)(k:h.ok):(upH h).ok:=by
 obtain⟨h1,h2,h3⟩:=k;refine⟨h1,?_,h3⟩;simp only[upH];split <;> omega
theorem Xoi (h:HS)(k:h.ok):(Z5 h).1.ok:=by
 have k1:=Xme h k;unfold Z5 Xbf;split
 ·exact ⟨k1.1,k1.2.1,by simp[Zb]⟩
 ·split
  ·exact XiD _ _ k1
  ·exact k1
theorem XjD (h:HS)(k:h.ok):(Yz h).1.ok:=by
 have k0:=k;obtain⟨h1,h2,h3⟩:=k;unfold Yz;split
 ·exact ⟨h1,h2,by simp[Qq]⟩
 ·split
  ·exact k0
  ·exact XiD _ _ k0
theorem XbN (h:HS)(b:Bool)(k:h.ok):(Yx h b).1.ok:=by
 unfold Yx;split
 ·exact Xoi h k
 ·obtain ⟨h1,_,h3⟩:=XjD h k;exact⟨h1,by simp,h3⟩
theorem XmD (h:HS)(l:List Bool)(k:h.ok):(Yv h l).1.ok:=by
 induction l generalizing h with
 |nil=>exact k
 |cons b r ih=>exact ih _ (XbN h b k)
theorem XmH:fresh.ok:=⟨by simp[fresh],by simp[fresh],by simp[fresh]⟩
theorem Xck (h:HS)(l:List Bool):(Yv h l).2.length≤l.length:=by
 induction l generalizing h with
 |nil=>simp[Yv]
 |cons b r ih=>
  have:=ih (Yx h b).1;have h2:(Yx h b).2.toList.length≤1:=by cases(Yx h b).2 <;> simp
  simp only[Yv,List.length_append,List.length_cons];omega
end Go.Proofs.YtkalonhalhdlaaaGreatDoor
namespace Go.Proofs.YtkalonhalhdlaaaGreatDoor
open Go.RowKit
theorem Xjb (c y:Nat)(hc:c<65536)(hy:y<256):(bits .and .u16 (bits .xor .u16 (c:Int) (y:Int)) 1==1)=decide (c%2≠y%2):=by
 rw[u16_xor_nat c y hc (by omega)];have hx:c ^^^ y<65536:=Nat.xor_lt_two_pow (n:=16) hc (by omega);have:=u16_and_nat (c ^^^ y) 1 hx (by omega);simp only[Int.natCast_one]at this;rw[this,nat_mask1]
 have hm:(c ^^^ y)%2=(c%2+y%2)%2:=by
  have h1:=Nat.xor_mod_two_pow (a:=c) (b:=y) (n:=1);simp only[Nat.pow_one]at h1;rw[h1];rcases Nat.mod_two_eq_zero_or_one c with h|h <;> rcases Nat.mod_two_eq_zero_or_one y with h'|h' <;> simp[h,h']
 rw[hm];rcases Nat.mod_two_eq_zero_or_one c with h|h <;> rcases Nat.mod_two_eq_zero_or_one y with h'|h' <;> simp[h,h']
theorem Xmm (c:Nat)(hc:c<65536):bits .xor .u16 ((c:Int) / 2) 33800=((c / 2 ^^^ 33800:Nat):Int):=by
 have:=u16_xor_nat (c / 2) 33800 (by omega) (by omega);simpa using this
theorem Xhz (c:Nat)(hc:c<65536):c / 2 ^^^ 33800<65536:=Nat.xor_lt_two_pow (n:=16) (by omega) (by omega)
theorem Xoh (c:Nat)(hc:c<65536):65535 ^^^ c=65535-c:=by
 apply Nat.eq_of_testBit_eq
 intro i;have h:=Nat.testBit_two_pow_sub_succ (x:=c) (n:=16) (by omega) i;have e:(2 ^ 16 -(c+1))=65535-c:=by omega
 rw[e]at h;rw[h,Nat.testBit_xor];have hm:=Nat.testBit_two_pow_sub_one 16 i;have e2:(2 ^ 16-1)=65535:=by omega
 rw[e2]at hm;rw[hm];by_cases hi:i<16
 ·simp[hi]
 ·have:c.testBit i=false:=Nat.testBit_lt_two_pow (Nat.lt_of_lt_of_le (by omega) (Nat.pow_le_pow_right (n:=2) (by omega) (show 16≤i by omega)));simp[hi,this]
theorem XiK (c:Nat)(hc:c<65536):wrap64 (bits .xor .u16 IntKind.u16.max (c:Int))=((65535-c:Nat):Int):=by
 have e:IntKind.u16.max=((65535:Nat):Int):=by decide
 rw[e,u16_xor_nat 65535 c (by omega) hc,Xoh c hc];unfold wrap64;omega
theorem sum_any (b off cap:Nat)(l:List UInt8)(w:World)(hl:l.length≤maxLen)(hc:Seg w b off l):
  Calls Tryz.prog 25 #[.slice (some ⟨b,off,none⟩) l.length cap] w fun e w'=>e=.returned (.int .i64 (ZQ l))∧w'=w:=by
 unfold maxLen at hl;go_enter Tryz.func25,Tryz.ntmps25
 go_wp2
 go_loop [3,9] (fun s i=>∃(k c:Nat),k≤l.length∧c<65536∧i=.int .i64 k∧s=.int .u16 c∧Qj c (l.drop k)=Qj ZY l) (fun _ i=>l.length -(intOf i).toNat)
 case atStart=>exact⟨0,ZY,Nat.zero_le _,XeX,rfl,rfl,rfl⟩
 case round=>
  obtain⟨k,c,hk,hc16,rfl,rfl,hcrc⟩:=hrel;by_cases hlt:k<l.length
  ·have hcell:=hc k hlt
   have hdrop:Hid (l.drop k=l.getD k 0::l.drop (k+1)):=by
    show l.drop k=l.getD k 0::l.drop (k+1)
    rw[List.drop_eq_getElem_cons hlt];simp[List.getD,hlt]
   generalize hx:l.getD k 0=x at hcell hdrop;have hx8:x.toNat<256:=x.toNat_lt;clear hx;have HC:Hid (Qj c (l.drop k)=Qj ZY l):=hcrc;clear hcrc;go_wp2
   go_loop [3,5,13] (fun s x' i=>∃(j d y:Nat),j≤8∧d<65536∧y<256∧i=.int .i64 j∧s=.int .u16 d∧x'=.int .u8 y∧QV (8-j) d y=QV 8 c x.toNat) (fun _ _ i=>8 -(intOf i).toNat)
   case atStart=>exact⟨0,c,x.toNat,by omega,hc16,hx8,rfl,rfl,rfl,rfl⟩
   case round=>
    obtain⟨j,d,y,hj,hd,hy,rfl,rfl,rfl,hcn⟩:=hrel;have HN:Hid (QV (8-j) d y=QV 8 c x.toNat):=hcn;clear hcn;by_cases hj8:j<8
    ·have hdf:=Xjb d y hd hy;have hxc:=Xmm d hd;have e8:Hid (8-j=(8 -(j+1))+1):=by show 8-j=(8 -(j+1))+1;omega
     by_cases hdm:d%2=y%2
     ·have h1:(bits .and .u16 (bits .xor .u16 (d:Int) (y:Int)) 1==1)=false:=by rw[hdf];simp[hdm]
      clear hdf hxc;have HM:Hid (Jy d y=d / 2):=by show Jy d y=d / 2;simp[Jy,hdm]
      clear hdm;go_wp2
      go_round
      case rel=>
       refine⟨j+1,d / 2,y / 2,by omega,by omega,by omega,by go_num,by go_num,by go_num,?_⟩;rw[← HN.out,e8.out,QV,HM.out]
      case measure=>simp[intOf];omega
     ·have h1:(bits .and .u16 (bits .xor .u16 (d:Int) (y:Int)) 1==1)=true:=by rw[hdf];simp[hdm]
      clear hdf;have HM:Hid (Jy d y=d / 2 ^^^ 33800):=by show Jy d y=d / 2 ^^^ 33800;simp[Jy,hdm]
      have HX:Hid (bits .xor .u16 ((d:Int) / 2) 33800=((d / 2 ^^^ 33800:Nat):Int)):=hxc;clear hdm hxc;go_wp2
      go_round
      case rel=>
       refine⟨j+1,d / 2 ^^^ 33800,y / 2,by omega,Xhz d hd,by omega,by go_num,?_,by go_num,?_⟩
       ·rw[HX.out]
       ·rw[← HN.out,e8.out,QV,HM.out]
      case measure=>simp[intOf];omega
    ·have e0:j=8:=by omega
     subst e0;go_wp2
     go_round
     case rel=>
      refine⟨k+1,d,by omega,hd,by go_num,rfl,?_⟩;have h1:d=QV 8 c x.toNat:=HN.out;have h2:Qj c (x::l.drop (k+1))=Qj ZY l:=hdrop.out▸HC.out;exact(congrArg (fun z=>Qj z (List.drop (k+1) l)) h1).trans h2
     case measure=>simp[intOf];omega
  ·have HS:Hid (ZQ l=65535-c):=XiS l k c (by omega) hcrc;clear hcrc;go_wp2
   go_ret
   refine⟨YI ?_,rfl⟩;rw[HS.out];exact XiK c hc16
theorem and_one (y:Nat)(hy:y<256):bits .and .u8 (y:Int) 1=((y%2:Nat):Int):=by
 have:=u8_and_nat y 1 hy (by omega);simp only[Int.natCast_one]at this;rw[this,nat_mask1]
theorem XkK (y:Nat):((chr (y%2==1)).toNat:Int)=48+((y%2:Nat):Int):=by
 rcases Nat.mod_two_eq_zero_or_one y with h|h <;> simp[h,chr]
theorem Xb0 (b off cap:Nat)(l:List UInt8)(w:World)(hl:l.length≤1048576)(hc:Seg w b off l)(hb:b<w.heap.size):
  Calls Tryz.prog 65 #[.slice (some ⟨b,off,none⟩) l.length cap] w fun e w'=>e=.returned (.string ⟨(txt (XH l)).toArray⟩)∧Below w.heap.size w w':=by
 go_enter Tryz.func65,Tryz.ntmps65
 go_wp2
 go_loopw [8] (fun i wr=>∃(k:Nat) (acc:List Bool),k≤l.length∧i=.int .i64 k∧Lib.IsBuilderF 109 5 w.heap.size w.heap.size (Lib.byteCells (txt acc)) wr∧Below w.heap.size w wr∧acc++XH (l.drop k)=XH l) (fun i _=>l.length -(intOf i).toNat)
 case atStart=>exact⟨0,[],Nat.zero_le _,rfl,(Lib.IsBuilderF.of (Lib.fresh_isBuilder 109 5 w)),(Below.refl _ w).alloc (Nat.le_refl _) _,rfl⟩
 case round=>
  obtain⟨k,acc,hk,rfl,hI,hbw,hacc⟩:=hrel;have HA:Hid (acc++XH (l.drop k)=XH l):=hacc;have hal:acc.length≤8*l.length:=by have:=congrArg List.length hacc;simp[YD]at this;omega
  clear hacc;by_cases hlt:k<l.length
  ·have hcell:=(hc.below hbw hb) k hlt
   have hdrop:Hid (l.drop k=l.getD k 0::l.drop (k+1)):=by
    show l.drop k=l.getD k 0::l.drop (k+1)
    rw[List.drop_eq_getElem_cons hlt];simp[List.getD,hlt]
   generalize l.getD k 0=x at hcell hdrop;have hx8:x.toNat<256:=x.toNat_lt
   have hA2:Hid (acc++Y7 (8-0) x.toNat++XH (l.drop (k+1))=XH l):=by
    show acc++Y7 8 x.toNat++XH (l.drop (k+1))=XH l
    rw[← HA.out,hdrop.out,XH,List.append_assoc]
   go_wp2
   go_loopw [5,12] (fun x' i wr=>∃(j y:Nat) (acc:List Bool),j≤8∧y<256∧i=.int .i64 j∧x'=.int .u8 y∧Lib.IsBuilderF 109 5 w.heap.size w.heap.size (Lib.byteCells (txt acc)) wr∧Below w.heap.size w wr∧acc++Y7 (8-j) y++XH (l.drop (k+1))=XH l) (fun _ i _=>8 -(intOf i).toNat)
   case atStart=>exact⟨0,x.toNat,acc,by omega,hx8,rfl,rfl,hI,hbw,hA2.out⟩
   case round=>
    clear hI hbw hal hA2 HA;obtain⟨j,y,acc,hj,hy,rfl,rfl,hI,hbw,hacc⟩:=hrel;have hal:acc.length≤8*l.length:=by have:=congrArg List.length hacc;simp[YD]at this;omega
    have HA:Hid (acc++Y7 (8-j) y++XH (l.drop (k+1))=XH l):=hacc;clear hacc;by_cases hj8:j<8
    ·have e8:Hid (8-j=(8 -(j+1))+1):=by show 8-j=(8 -(j+1))+1;omega
     have hand:=and_one y hy;go_wp2_with fail
     refine(Xb9 w.heap.size w.heap.size _ _ _ hI (by rw[Lib.byteCells_length,Y5];omega) (by have:=hbw.size;omega)).mono ?_;rintro e W1 ⟨rfl,h1,b1,_⟩;clear hand;go_wp2
     go_roundw
     case rel=>
      refine⟨j+1,y / 2,acc++[y%2==1],by omega,by omega,by go_num,by go_num,?_,hbw.trans b1,?_⟩
      ·have e1:Lib.byteCells (txt (acc++[y%2==1]))=Lib.byteCells (txt acc)++[.int .u8 (48+(y:Int)%2)]:=by
        rw[QG,Lib.byteCells_append];congr 1
        simp[txt,Lib.byteCells,XkK]
       rw[e1];exact Or.inr h1
      ·rw[← HA.out,e8.out,Y7];simp
     case measure=>simp[intOf];omega
    ·have e0:j=8:=by omega
     subst e0;go_wp2
     go_roundw
     case rel=>exact⟨k+1,acc,by omega,by go_num,hI,hbw,by have h:=HA.out;simpa[Y7]using h⟩
     case measure=>simp[intOf];omega
  ·go_wp2_with fail
   refine(Tryz.Builder_String_any_k w.heap.size w.heap.size _ _ hI (by have:=hbw.size;omega)).mono ?_;rintro e W1 ⟨rfl,_,b1,_⟩;go_wp2
   go_ret
   have h:=HA.out;rw[List.drop_eq_nil_of_le (by omega)]at h;simp only[XH,List.append_nil]at h;rw[← h];exact⟨rfl,hbw.trans b1⟩
def Xcz (l:List UInt8):Obj:=.cells #[.int .u8 ((ZQ l:Int)%256),.int .u8 ((ZQ l:Int) / 256)] 5
theorem Jm (l:List UInt8):(Y4 l).length=2:=rfl
theorem Xec (w:World)(l:List UInt8):Seg (w.alloc (Xcz l)) w.heap.size 0 (Y4 l):=by
 have h0:=XbA l;intro i hi;rw[Jm]at hi;have h2:i=0∨i=1:=by omega
 have h4:(ZQ l:Int) / 256%256=(ZQ l:Int) / 256:=by omega
 rcases h2 with rfl|rfl <;> simp[Xcz,Y4,h4]
theorem Xfm (b off cap:Nat)(l:List UInt8)(w:World)(hl:l.length≤maxLen)(hc:Seg w b off l):
  Calls Tryz.prog 66 #[.slice (some ⟨b,off,none⟩) l.length cap] w fun e w'=>e=.returned (.slice (some ⟨w.heap.size,0,none⟩) 2 2)∧w'=w.alloc (Xcz l):=by
 have hs:=XbA l;go_enter Tryz.func66,Tryz.ntmps66
 go_wp2_with fail
 refine(sum_any b off cap l _ hl hc).mono ?_;rintro e w' ⟨rfl,rfl⟩;go_wp2
 go_ret
 exact⟨rfl,rfl⟩
theorem XcP (bs:List Bool)(k:Nat)(h:k<bs.length)(h':k<(⟨(txt bs).toArray⟩:ByteArray).size):(⟨(txt bs).toArray⟩:ByteArray)[k]'h'=chr bs[k]:=by
 show(txt bs).toArray[k]'_=_
 simp[txt]
theorem Xaf (bs:List Bool):(⟨(txt bs).toArray⟩:ByteArray).size=bs.length:=by
 show(txt bs).toArray.size=_
 simp[txt]
theorem Xil (bs:List Bool)(w:World)(hs:bs.length≤16777216):
  Calls Tryz.prog 64 #[.string ⟨(txt bs).toArray⟩] w fun e w'=>e=.returned (.string ⟨(txt (YX 0 bs)).toArray⟩)∧Below w.heap.size w w':=by
 have hsz0:=Xaf bs;have hget:=XcP bs;generalize (⟨(txt bs).toArray⟩:ByteArray)=s at hsz0 hget;have HZ:Hid (s.size=bs.length):=hsz0;have HG:Hid (∀ k (h:k<bs.length) (h':k<s.size),s[k]'h'=chr bs[k]):=hget;clear hsz0 hget;go_enter Tryz.func64,Tryz.ntmps64
 go_wp2
 go_loopw [4] (fun o wr=>∃(pos n:Nat) (acc:List Bool),o=.int .i64 n∧n≤4∧pos≤bs.length∧Lib.IsBuilderF 109 5 w.heap.size w.heap.size (Lib.byteCells (txt acc)) wr∧wr.heap[w.heap.size+1]?=some (.stringIter s pos)∧Below w.heap.size w wr∧acc++YX n (bs.drop pos)=YX 0 bs) (fun _ wr=>s.size-wr.iterPos (w.heap.size+1))
 case atStart=>
  refine⟨0,0,[],rfl,by omega,by omega,(Lib.IsBuilderF.of (Lib.fresh_isBuilder 109 5 w)).alloc _,?_,((Below.refl _ w).alloc (Nat.le_refl _) _).alloc (by simp) _,rfl⟩;have:=World.iter_heap (w.alloc (.cells #[.pointer none,.slice none 0 0] 109)) s 0;simpa using this
 case round=>
  obtain⟨pos,n,acc,rfl,hn,hpos,hI,hit,hbw,hacc⟩:=hrel;have hsz:w.heap.size+1<wr.heap.size:=(Array.getElem?_eq_some_iff.1 hit).1;have hal:acc.length≤2*bs.length:=by have:=congrArg List.length hacc;have:=Xb8 0 bs;simp at *;omega
  have HA:Hid (acc++YX n (bs.drop pos)=YX 0 bs):=hacc;clear hacc;by_cases hp:pos<bs.length
  ·have hp':pos<s.size:=by rw[HZ.out];exact hp
   have hb0:=HG.out pos hp hp';have hdrop:Hid (bs.drop pos=bs[pos]::bs.drop (pos+1)):=List.drop_eq_getElem_cons hp;generalize bs[pos]=bit at hb0 hdrop;have hnx:∀ty,(Instr.next (.pointer (some ⟨w.heap.size+1,0,none⟩)) true ty).run Tryz.prog wr=_:=fun ty=>Lib.run_next_ascii_at wr (w.heap.size+1) s pos ty hit hp' (by rw[hb0];cases bit <;> decide)
   rw[hb0]at hnx;have hI2:=hI.iterAt hit (pos+1);have hit2:=Lib.iterAt_heap wr (w.heap.size+1) s pos (pos+1) hit;have hbw2:=Lib.below_iterAt hbw (k:=w.heap.size+1) (by omega) s (pos+1);have hsz2:w.heap.size≤(wr.iterAt (w.heap.size+1) s (pos+1)).heap.size:=by rw[Lib.iterAt_size];omega
   clear hb0 hp';cases bit
   ·have e48:(chr false).toNat=48:=by decide
    rw[e48]at hnx;clear e48;go_wp2_with fail
    refine(J3 w.heap.size w.heap.size _ 48 (by omega) (by omega) _ hI2 (by rw[Lib.byteCells_length,Y5];omega) hsz2).mono ?_;rintro e W1 ⟨rfl,h1,b1,k1⟩;clear hnx;go_wp2
    go_roundw
    case rel=>
     refine⟨pos+1,0,acc++[false],by go_num,by omega,by omega,?_,k1.iter hit2 (by omega),hbw2.trans b1,?_⟩
     ·rw[QG,Lib.byteCells_append];exact Or.inr h1
     ·rw[← HA.out,hdrop.out,YX];simp
    case measure=>
     simp only[World.iterPos,k1.iter hit2 (by omega),hit];have:=HZ.out;omega
   ·have e49:(chr true).toNat=49:=by decide
    rw[e49]at hnx;clear e49
    have g5:((n:Int)+1==5)=decide (n=4):=by
     by_cases h:n=4
     ·subst h;rfl
     ·have:¬((n:Int)+1=5):=by omega
      simp[h,this]
    by_cases h4:n=4
    ·have g6:((n:Int)+1==5)=true:=by rw[g5];simp[h4]
     have H4:Hid (n=4):=h4;clear g5 h4;go_wp2_with fail
     refine(J3 w.heap.size w.heap.size _ 49 (by omega) (by omega) _ hI2 (by rw[Lib.byteCells_length,Y5];omega) hsz2).mono ?_;rintro e W1 ⟨rfl,h1,b1,k1⟩;clear hnx;go_wp2_with fail
     refine(Xb9 w.heap.size w.heap.size _ 48 _ (Or.inr h1) (by rw[List.length_append,Lib.byteCells_length,Y5];simp;omega) (by have:=b1.size;omega)).mono ?_;rintro e W2 ⟨rfl,h2,b2,k2⟩;go_wp2
     go_roundw
     case rel=>
      refine⟨pos+1,0,acc++[true,false],by go_num,by omega,by omega,?_,k2.iter (k1.iter hit2 (by omega)) (by omega),(hbw2.trans b1).trans b2,?_⟩
      ·rw[QG,Lib.byteCells_append];rw[List.append_assoc]at h2;exact Or.inr h2
      ·rw[← HA.out,hdrop.out,YX,if_pos (by have:=H4.out;omega)];simp
     case measure=>
      simp only[World.iterPos,k2.iter (k1.iter hit2 (by omega)) (by omega),hit];have:=HZ.out;omega
    ·have g6:((n:Int)+1==5)=false:=by rw[g5];simp[h4]
     have H4:Hid (¬ n=4):=h4;have hsmall:n+1≤6:=by omega
     clear g5 h4;go_wp2_with fail
     refine(J3 w.heap.size w.heap.size _ 49 (by omega) (by omega) _ hI2 (by rw[Lib.byteCells_length,Y5];omega) hsz2).mono ?_;rintro e W1 ⟨rfl,h1,b1,k1⟩;clear hnx;go_wp2
     go_roundw
     case rel=>
      refine⟨pos+1,n+1,acc++[true],by go_num,?_,by omega,?_,k1.iter hit2 (by omega),hbw2.trans b1,?_⟩
      ·have:=H4.out;omega
      ·rw[QG,Lib.byteCells_append];exact Or.inr h1
      ·rw[← HA.out,hdrop.out,YX,if_neg (by have:=H4.out;omega)];simp
     case measure=>
      simp only[World.iterPos,k1.iter hit2 (by omega),hit];have:=HZ.out;omega
  ·have hp':¬pos<s.size:=by rw[HZ.out];exact hp
   have hnx:∀ty,(Instr.next (.pointer (some ⟨w.heap.size+1,0,none⟩)) true ty).run Tryz.prog wr=_:=fun ty=>Lib.run_next_end_at wr (w.heap.size+1) s pos ty hit hp'
   go_wp2_with fail
   refine(Tryz.Builder_String_any_k w.heap.size w.heap.size _ _ hI (by omega)).mono ?_;rintro e W1 ⟨rfl,_,b1,_⟩;go_wp2
   go_ret
   have h:=HA.out;rw[List.drop_eq_nil_of_le (by omega),YX,List.append_nil]at h;rw[← h];exact⟨rfl,hbw.trans b1⟩
def Jh (h:HS):List Value:=.bool h.on:: .int .i64 h.ones:: .int .i64 h.len::Lib.byteCells h.held
def Xj (w:World)(b:Nat)(h:HS):Prop:=w.heap[b]?=some (.cells (Jh h).toArray 106 (0,0))
section
variable {w:World}{b:Nat}{h:HS}
theorem Xj.lt (k:Xj w b h):b<w.heap.size:=(Array.getElem?_eq_some_iff.1 k).1
theorem Xj.XdC (k:Xj w b h):w.cell? ⟨b,0,none⟩=some (.bool h.on):=by
 have e:w.heap[b]?=_:=k;simp[World.cell?,e,Jh]
theorem Xj.Xda (k:Xj w b h):w.cell? ⟨b,1,none⟩=some (.int .i64 h.ones):=by
 have e:w.heap[b]?=_:=k;simp[World.cell?,e,Jh]
theorem Xj.XcE (k:Xj w b h):w.cell? ⟨b,2,none⟩=some (.int .i64 h.len):=by
 have e:w.heap[b]?=_:=k;simp[World.cell?,e,Jh]
theorem Xj.Xf8 (k:Xj w b h)(i:Nat)(hi:i<h.held.length):w.cell? ⟨b,3+i,none⟩=some (.int .u8 ((h.held.getD i 0).toNat:Int)):=by
 have e:w.heap[b]?=_:=k;simp[World.cell?,e,Jh,Lib.byteCells,Nat.add_comm 3 i,hi]
theorem Xj.seg (k:Xj w b h)(n m:Nat)(hn:n+m≤h.held.length):Seg w b (3+n) ((h.held.drop n).take m):=by
 intro i hi;simp at hi;have:=k.Xf8 (n+i) (by omega);rw[Nat.add_assoc,this];have h1:n+i<h.held.length:=by omega
 have h2:i<m:=by omega
 simp[List.getD,h1,h2,List.getElem?_drop]
theorem Xj.frozen (k:Xj w b h)(i:Nat):w.frozen? ⟨b,i,none⟩=false:=by
 have e:w.heap[b]?=_:=k;simp[World.frozen?,e]
theorem Xj.XcN (k:Xj w b h)(v:Bool):Xj (w.setCell ⟨b,0,none⟩ (.bool v)) b {h with on:=v}:=by
 have e:w.heap[b]?=_:=k;show(w.setCell ⟨b,0,none⟩ (.bool v)).heap[b]?=_
 simp[World.setCell,Array.getElem?_modify,e,Jh]
theorem Xj.XeJ (k:Xj w b h)(n:Nat):Xj (w.setCell ⟨b,1,none⟩ (.int .i64 n)) b {h with ones:=n}:=by
 have e:w.heap[b]?=_:=k;show(w.setCell ⟨b,1,none⟩ (.int .i64 n)).heap[b]?=_
 simp[World.setCell,Array.getElem?_modify,e,Jh]
theorem Xj.Jl (k:Xj w b h)(n:Nat):Xj (w.setCell ⟨b,2,none⟩ (.int .i64 n)) b {h with len:=n}:=by
 have e:w.heap[b]?=_:=k;show(w.setCell ⟨b,2,none⟩ (.int .i64 n)).heap[b]?=_
 simp[World.setCell,Array.getElem?_modify,e,Jh]
theorem Xj.Xou (k:Xj w b h)(i:Nat)(x:UInt8):Xj (w.setCell ⟨b,3+i,none⟩ (.int .u8 (x.toNat:Int))) b {h with held:=h.held.set i x}:=by
 have e:w.heap[b]?=_:=k;show(w.setCell ⟨b,3+i,none⟩ (.int .u8 (x.toNat:Int))).heap[b]?=_
 simp[World.setCell,Array.getElem?_modify,e,Jh,Lib.byteCells,Nat.add_comm 3 i,List.map_set]
theorem Xj.alloc (k:Xj w b h)(o:Obj):Xj (w.alloc o) b h:=by
 show(w.alloc o).heap[b]?=_
 rw[Below.heap_alloc _ _ _ k.lt];exact k
theorem Xj.drew (k:Xj w b h):Xj w.drew b h:=k
theorem Xj.keeps {X:Nat→Prop}{w':World}(k:Xj w b h)(hk:Xb X w w')(hx:¬X b):Xj w' b h:=by
 show w'.heap[b]?=_
 rw[hk.block b k.lt hx];exact k
theorem Xj.setOther (k:Xj w b h){p:Addr}(hp:p.block≠b)(u:Value):Xj (w.setCell p u) b h:=by
 show(w.setCell p u).heap[b]?=_
 rw[Below.heap_setCell _ _ _ _ (fun e=>hp e.symm)];exact k
end
theorem Xkk (w:World):(zeroValue 106).run Tryz.prog w=.ok (.agg (Jh fresh).toArray) w:=by kernel_rfl
theorem XfE (w:World):
  Calls Tryz.prog 28 #[] w fun e w'=>e=.returned (.pointer (some ⟨w.heap.size,0,none⟩))∧Xj w' w.heap.size fresh∧Below w.heap.size w w':=by
 have hz:=Xkk;go_enter Tryz.func28,Tryz.ntmps28
 go_wp2
 go_ret
 refine⟨rfl,?_,(Below.refl _ w).alloc (Nat.le_refl _) _⟩;exact Array.getElem?_push_size
theorem Xov (x:UInt8)(bit:Bool)(v:Int)(hv:v=if bit then 1 else 0):
  bits .or .u8 ((x.toNat:Int) / 2) (v*128%256)=((shB x bit).toNat:Int):=by
 have hx:x.toNat<256:=x.toNat_lt;subst hv;cases bit
 ·have:=u8_or_nat (x.toNat / 2) 0 (by omega) (by omega);simp at this;simp[this,shB];omega
 ·have h1:=u8_or_nat (x.toNat / 2) 128 (by omega) (by omega);have h2:=nat_join 7 128 (x.toNat / 2) (by omega) (by omega);rw[Nat.or_comm]at h2;rw[h2]at h1;have e:((if true then 1 else 0:Int)*128%256)=128:=by decide
  rw[e];have h3:bits .or .u8 ((x.toNat:Int) / 2) 128=((128+x.toNat / 2:Nat):Int):=by simpa using h1
  rw[h3];simp[shB];omega
theorem add_any (b:Nat)(h:HS)(bit:Bool)(v:Int)(hv:Hid (v=if bit then 1 else 0))(w:World)(k:Xj w b h)(ok:h.ok):
  Calls Tryz.prog 157 #[.pointer (some ⟨b,0,none⟩),.int .u8 v] w fun e w'=>e=.returned (.tuple #[])∧Xj w' b (ZE h bit)∧Xb (· =b) w w':=by
 have c0:=k.XdC;have c2:=k.XcE;by_cases hon:h.on=false
 ·rw[hon]at c0;have e0:ZE h bit=h:=by simp[ZE,hon]
  rw[e0];go_enter Tryz.func157,Tryz.ntmps157
  go_wp2
  first|go_end0|refine bodyPost_ret (results_none rfl _ _ _) rfl ?_
  exact⟨rfl,k,Xb.refl _ _⟩
 ·simp only[Bool.not_eq_false]at hon;rw[hon]at c0;obtain⟨ok1,ok2,ok3⟩:=ok;have f0:=k.frozen;by_cases hl:h.len=542
  ·rw[hl]at c2;have e0:ZE h bit={h with len:=535}:=by simp[ZE,hon,JB,hl]
   rw[e0];clear e0 hon hl;go_enter Tryz.func157,Tryz.ntmps157
   go_wp2
   go_end0
   exact⟨rfl,(k.Jl 534).Jl 535,((Xb.refl _ w).setB _ _).setB _ _⟩
  ·have g1:((h.len:Int)==542)=false:=by simp;omega
   by_cases h8:h.len / 8<66
   ·have c3:=k.Xf8 (h.len / 8) (by omega);have e0:ZE h bit={h with len:=h.len+1,held:=h.held.set (h.len / 8) (shB (h.held.getD (h.len / 8) 0) bit)}:=by simp[ZE,hon,JB,hl,h8]
    rw[e0];clear e0 hon;generalize h.held.getD (h.len / 8) 0=x at c3;have hx8:x.toNat<256:=x.toNat_lt;have hsh:=hide (Xov x bit v hv.out);have g2:(h.len:Int) / 8<66:=by omega
    go_enter Tryz.func157,Tryz.ntmps157
    go_wp2
    go_region
    all_goals go_wp2
    all_goals go_end0
    all_goals rw[Xa hsh]
    all_goals exact⟨rfl,(((k.Xou (h.len / 8) (shB x bit)).Jl (h.len+1)).drew),(((Xb.refl _ w).setB _ _).setB _ _).drew⟩
   ·have g2:¬(h.len:Int) / 8<66:=by omega
    have e0:ZE h bit={h with len:=h.len+1}:=by simp[ZE,hon,JB,hl,h8]
    rw[e0];clear e0 hon;go_enter Tryz.func157,Tryz.ntmps157
    go_wp2
    go_end0
    exact⟨rfl,k.Jl (h.len+1),(Xb.refl _ w).setB _ _⟩
def fv (f:Nat×List UInt8)(p:Option Addr)(cap:Nat):Value:=.agg #[.int .i64 f.1,.slice p f.2.length cap]
def Bytes (w:World)(base:Nat)(f:Nat×List UInt8)(p:Option Addr)(cap:Nat):Prop:=w.ownsRow base 5 1 (.slice p f.2.length cap) f.2.length (Lib.byteCells f.2)
theorem Bytes.none (w:World)(base k:Nat):Bytes w base (k,[]) none 0:=World.ownsRow_nil _ _ _ _
def told (o:Option (Nat×List UInt8)):Nat×List UInt8:=o.getD (0,[])
theorem XeM (b:Nat)(h:HS)(w:World)(k:Xj w b h):
  Calls Tryz.prog 156 #[.pointer (some ⟨b,0,none⟩)] w fun e w'=>∃p cap,e=.returned (.tuple #[fv (told (Zb h).2) p cap,.bool (Zb h).2.isSome])∧Bytes w' w.heap.size (told (Zb h).2) p cap∧Xj w' b (Zb h).1∧Xb (· =b) w w':=by
 have c0:=k.XdC;have c2:=k.XcE;have f0:=k.frozen;have hb:=k.lt;by_cases hon:h.on=false
 ·rw[hon]at c0;have e1:(Zb h).2=none:=by simp[Zb,hon]
  rw[e1];clear e1 hon;go_enter Tryz.func156,Tryz.ntmps156
  go_wp2
  exact bodyPost_ret (v:=.tuple #[.agg #[.int .i64 0,.slice none 0 0],.bool false]) (by simp[results,Tryz.results156,go_sem]) rfl ⟨none,0,rfl,Bytes.none _ _ _,((k.XcN false).Jl 0).alloc _,(((Xb.refl _ w).setB _ _).setB _ _).alloc _⟩
 ·simp only[Bool.not_eq_false]at hon;rw[hon]at c0;by_cases h6:6<h.len
  ·have e1:(Zb h).2=some (2,[]):=by simp[Zb,hon,h6]
   rw[e1];clear e1 hon;have g1:(6:Int)<(h.len:Int):=by omega
   go_enter Tryz.func156,Tryz.ntmps156
   go_wp2
   exact bodyPost_ret (v:=.tuple #[.agg #[.int .i64 2,.slice none 0 0],.bool true]) (by simp[results,Tryz.results156,go_sem]) rfl ⟨none,0,rfl,Bytes.none _ _ _,((k.XcN false).Jl 0).alloc _,(((Xb.refl _ w).setB _ _).setB _ _).alloc _⟩
  ·have e1:(Zb h).2=none:=by simp[Zb,h6]
   rw[e1];clear e1 hon;have g1:¬(6:Int)<(h.len:Int):=by omega
   go_enter Tryz.func156,Tryz.ntmps156
   go_wp2
   exact bodyPost_ret (v:=.tuple #[.agg #[.int .i64 0,.slice none 0 0],.bool false]) (by simp[results,Tryz.results156,go_sem]) rfl ⟨none,0,rfl,Bytes.none _ _ _,((k.XcN false).Jl 0).alloc _,(((Xb.refl _ w).setB _ _).setB _ _).alloc _⟩
theorem below_drewN {B:Nat}{a w:World}(h:Below B a w)(n:Nat):Below B a (w.drewN n):=⟨h.os,h.tape,h.output,h.size,h.block⟩
theorem XcG:Tryz.prog.arrayLen 104=66:=by kernel_rfl
theorem XgC:Tryz.prog.elem 104=5:=by kernel_rfl
theorem XgD:Tryz.prog.underlying 104=some (.array (Tryz.prog.arrayLen 104) (Tryz.prog.elem 104)):=by kernel_rfl
theorem Xhk (b:Nat)(i:Int)(h0:0≤i)(h1:i≤66)(w:World):
  (Instr.sliceAt 104 (.pointer (some ⟨b,3,none⟩)) none (some (.int .i64 i)) none).run Tryz.prog w=.ok (.slice (some ⟨b,3,none⟩) i.toNat 66) w:=by
 rw[run_sliceAt_array_h w 104 ⟨b,3,none⟩ XgD .i64 i h0 (by rw[XcG];omega),XgC,XcG];simp[go_sem]
theorem XfO (b:Nat)(i j:Int)(h0:0≤i)(h1:i≤j)(h2:j≤66)(h3:i<66)(w:World):
  (Instr.sliceAt 104 (.pointer (some ⟨b,3,none⟩)) (some (.int .i64 i)) (some (.int .i64 j)) none).run Tryz.prog w=.ok (.slice (some ⟨b,3+i.toNat,none⟩) (j.toNat-i.toNat) (66-i.toNat)) w:=by
 rw[run_sliceAt_array_lh w 104 ⟨b,3,none⟩ XgD .i64 .i64 i j h0 h1 (by rw[XcG];omega),XgC,XcG];have e:¬66=i.toNat:=by omega
 simp[go_sem,e]
theorem Xk0 (b:Nat)(h:HS)(n:Nat)(hn0:0<n)(hn:n≤536)(w:World)(k:Xj w b h)(ok:h.ok):
  Calls Tryz.prog 165 #[.pointer (some ⟨b,0,none⟩),.int .i64 (n:Int)] w fun e w'=>∃p cap,e=.returned (fv (YS h.held n) p cap)∧Bytes w' w.heap.size (YS h.held n) p cap∧Below w.heap.size w w':=by
 by_cases h1:n<32
 ·have e1:YS h.held n=(3,[]):=by simp[YS,h1]
  rw[e1];clear e1;have g1:(n:Int)<32:=by omega
  go_enter Tryz.func165,Tryz.ntmps165
  go_wp2
  exact bodyPost_ret (v:=.agg #[.int .i64 3,.slice none 0 0]) (by simp[results,Tryz.results165,go_sem]) rfl ⟨none,0,rfl,Bytes.none _ _ _,(Below.refl _ w).alloc (Nat.le_refl _) _⟩
 by_cases h2:n%8≠0
 ·have e1:YS h.held n=(4,[]):=by simp[YS,h1,h2]
  rw[e1];clear e1;have g1:¬(n:Int)<32:=by omega
  have g2:((n:Int)%8 != 0)=true:=by simp;omega
  go_enter Tryz.func165,Tryz.ntmps165
  go_wp2
  exact bodyPost_ret (v:=.agg #[.int .i64 4,.slice none 0 0]) (by simp[results,Tryz.results165,go_sem]) rfl ⟨none,0,rfl,Bytes.none _ _ _,(Below.refl _ w).alloc (Nat.le_refl _) _⟩
 have h2':n%8=0:=by omega
 by_cases h3:528<n
 ·have e1:YS h.held n=(6,[]):=by simp[YS,h1,h2',h3]
  rw[e1];clear e1;have g1:¬(n:Int)<32:=by omega
  have g2:((n:Int)%8 != 0)=false:=by simp;omega
  have g3:(528:Int)<(n:Int):=by omega
  go_enter Tryz.func165,Tryz.ntmps165
  go_wp2
  exact bodyPost_ret (v:=.agg #[.int .i64 6,.slice none 0 0]) (by simp[results,Tryz.results165,go_sem]) rfl ⟨none,0,rfl,Bytes.none _ _ _,(Below.refl _ w).alloc (Nat.le_refl _) _⟩
 have g1:¬(n:Int)<32:=by omega
 have g2:((n:Int)%8 != 0)=false:=by simp;omega
 have g3:¬(528:Int)<(n:Int):=by omega
 have hs1:=fun wx=>Xhk b ((n:Int) / 8-2) (by omega) (by omega) wx
 have hs2:=fun wx=>XfO b ((n:Int) / 8-2) ((n:Int) / 8) (by omega) (by omega) (by omega) (by omega) wx
 have e1:((n:Int) / 8-2).toNat=n / 8-2:=by omega
 have e2:((n:Int) / 8).toNat -(n / 8-2)=2:=by omega
 rw[e1]at hs1 hs2;rw[e2]at hs2;clear h1 h2 h2' h3 e1 e2;go_enter Tryz.func165,Tryz.ntmps165
 go_wp2
 go_quiet (fail)
 go_wp2_with fail
 clear hs1 hs2;have hlen:(h.held.take (n / 8-2)).length=n / 8-2:=by rw[List.length_take,ok.1];omega
 obtain⟨W,hW⟩:∃W,W=((w.alloc (Obj.cells #[Value.int IntKind.i64 0,Value.slice none 0 0] 65)).drewN nq):=⟨_,rfl⟩;have kW:Xj W b h:=by rw[hW];exact k.alloc _
 have hbW:Below w.heap.size w W:=by rw[hW];exact below_drewN ((Below.refl _ w).alloc (Nat.le_refl _) _) nq
 have hR:W.heap[w.heap.size]?=some (.cells #[.int .i64 0,.slice none 0 0] 65 (0,0)):=by rw[hW];exact Array.getElem?_push_size
 rw[← hW];clear hW
 have hseg:Seg W b 3 (h.held.take (n / 8-2)):=by
  have:=kW.seg 0 (n / 8-2) (by rw[ok.1];omega);simpa using this
 have hsm:=Xfm b 3 66 (h.held.take (n / 8-2)) W (by unfold maxLen;omega) hseg;rw[hlen]at hsm;refine hsm.mono ?_;rintro e W1 ⟨rfl,hW1⟩;clear hsm;have hb1:Below W.heap.size W W1:=by rw[hW1];exact(Below.refl _ W).alloc (Nat.le_refl _) _
 have hsg1:Seg W1 W.heap.size 0 (Y4 (h.held.take (n / 8-2))):=by rw[hW1];exact Xec W _
 have hlt1:W.heap.size<W1.heap.size:=by rw[hW1];simp
 clear hW1;have hseg1:=hseg.below hb1 kW.lt;have hseg2:Seg W1 b (3+(n / 8-2)) ((h.held.drop (n / 8-2)).take 2):=(kW.seg (n / 8-2) 2 (by rw[ok.1];omega)).below hb1 kW.lt;have hlen2:((h.held.drop (n / 8-2)).take 2).length=2:=by rw[List.length_take,List.length_drop,ok.1];omega
 have hR1:W1.heap[w.heap.size]?=some (.cells #[.int .i64 0,.slice none 0 0] 65 (0,0)):=by rw[hb1.block _ (Array.getElem?_eq_some_iff.1 hR).1];exact hR
 have hbw1:Below w.heap.size w W1:=hbW.trans (hb1.mono hbW.size)
 have hj:YS h.held n=if(h.held.drop (n / 8-2)).take 2=Y4 (h.held.take (n / 8-2))then(1,h.held.take (n / 8-2))else(5,[]):=by
  have a1:¬n<32:=by omega
  have a2:n%8=0:=by simp at g2;omega
  have a3:¬528<n:=by omega
  have a4:n / 8 -(n / 8-2)=2:=by omega
  simp[YS,a1,a2,a3,List.drop_take,a4]
 have heq:=Tryz.bytes_Equal_all (some ⟨b,3+(n / 8-2),none⟩) (some ⟨W.heap.size,0,none⟩) 2 (66 -(n / 8-2)) 2 2 (nums ((h.held.drop (n / 8-2)).take 2)) (nums (Y4 (h.held.take (n / 8-2)))) W1 (by rw[nums_length];exact hlen2) (by rw[nums_length];rfl) (by have:=hseg2.bytesIn;rw[hlen2]at this;exact this) (by have:=hsg1.bytesIn;exact this);rw[JR,JR]at heq;have HQ:=hide heq;have HJ:=hide hj;have hlen':=hide hlen;clear heq hj hseg2 hsg1 hb1 hseg hR hbW kW hlen hlen2;generalize (h.held.drop (n / 8-2)).take 2=a at HQ HJ;generalize Y4 (h.held.take (n / 8-2))=c at HQ HJ;generalize h.held.take (n / 8-2)=fr at hseg1 HJ hlen';go_wp2_with fail
 refine(Xa HQ).mono ?_;rintro e W2 ⟨rfl,hW2⟩;subst hW2;clear HQ;have r0:W2.cell? ⟨w.heap.size,0,none⟩=some (.int .i64 0):=by rw[Lib.cell_of_heap hR1];rfl
 have r1:W2.cell? ⟨w.heap.size,1,none⟩=some (.slice none 0 0):=by rw[Lib.cell_of_heap hR1];rfl
 have rf:∀i,W2.frozen? ⟨w.heap.size,i,none⟩=false:=fun i=>Lib.frozen_of_heap hR1 i
 by_cases hac:a=c
 ·have hac':(a==c)=true:=by simp[hac]
  have HJ2:Hid (YS h.held n=(1,fr)):=by show YS h.held n=(1,fr);rw[Xa HJ,if_pos hac]
  clear HJ hac;go_wp2_with fail
  have hn8:2≤n / 8-2:=by omega
  refine(Tryz.bytes_Clone_at ⟨b,3,none⟩ (n / 8-2) 66 (nums fr) W2 (by rw[nums_length];exact Xa hlen') (by omega) (fun i hi=>by rw[Go.WideShapes.add_plain,hseg1 i (by rw[Xa hlen'];exact hi),nums_getD fr i (by rw[Xa hlen'];exact hi)])).mono ?_;rintro e W3 ⟨v',rfl,hown,_,hb3⟩;rw[nums_cells]at hown
  obtain⟨g,cap,rfl⟩:∃g cap,v'=.slice (some ⟨g,0,none⟩) (n / 8-2) cap:=by
   rcases hown.2 with⟨_,h0⟩|⟨g,cap,cur,hv,_⟩
   ·omega
   ·exact ⟨g,cap,hv⟩
  have hltR:w.heap.size<W2.heap.size:=(Array.getElem?_eq_some_iff.1 hR1).1;have hR3:W3.heap[w.heap.size]?=some (.cells #[.int .i64 0,.slice none 0 0] 65 (0,0)):=by rw[hb3.block _ hltR];exact hR1
  have hfin:Bytes ((W3.setCell ⟨w.heap.size,0,none⟩ (.int .i64 1)).setCell ⟨w.heap.size,1,none⟩ (.slice (some ⟨g,0,none⟩) (n / 8-2) cap)) w.heap.size (1,fr) (some ⟨g,0,none⟩) cap:=by
   show World.ownsRow _ _ _ _ (.slice _ fr.length _) fr.length _
   rw[Xa hlen'];exact Xw (ownsRow_setCell_below (ownsRow_setCell_below hown (by exact hltR) _) (by exact hltR) _) (Nat.le_of_lt hltR)
  have hbf:Below w.heap.size w ((W3.setCell ⟨w.heap.size,0,none⟩ (.int .i64 1)).setCell ⟨w.heap.size,1,none⟩ (.slice (some ⟨g,0,none⟩) (n / 8-2) cap)):=
   ((hbw1.trans (hb3.mono (Nat.le_of_lt hltR))).setCell (p:=⟨w.heap.size,0,none⟩) (Nat.le_refl _) _).setCell (p:=⟨w.heap.size,1,none⟩) (Nat.le_refl _) _
  clear r0 r1 rf hown hb3 hR1 hseg1 hbw1;have r0:W3.cell? ⟨w.heap.size,0,none⟩=some (.int .i64 0):=by rw[Lib.cell_of_heap hR3];rfl
  have r1:W3.cell? ⟨w.heap.size,1,none⟩=some (.slice none 0 0):=by rw[Lib.cell_of_heap hR3];rfl
  have rf:∀i,W3.frozen? ⟨w.heap.size,i,none⟩=false:=fun i=>Lib.frozen_of_heap hR3 i
  have HF:=hide hfin;have HB:=hide hbf;clear hfin hbf;go_wp2
  rw[Xa HJ2];exact bodyPost_ret (v:=.agg #[.int .i64 1,.slice (some ⟨g,0,none⟩) (n / 8-2) cap]) (by simp[results,Tryz.results165,go_sem,r0,r1]) rfl ⟨some ⟨g,0,none⟩,cap,by simp[fv,Xa hlen'],Xa HF,Xa HB⟩
 ·have hac':(a==c)=false:=by simp[hac]
  have HJ2:Hid (YS h.held n=(5,[])):=by show YS h.held n=(5,[]);rw[Xa HJ,if_neg hac]
  clear HJ hac;go_wp2
  rw[Xa HJ2];exact bodyPost_ret (v:=.agg #[.int .i64 5,.slice none 0 0]) (by simp[results,Tryz.results165,go_sem,r0,r1]) rfl ⟨none,0,rfl,Bytes.none _ _ _,(hbw1.setCell (p:=⟨w.heap.size,0,none⟩) (Nat.le_refl _) _).setCell (p:=⟨w.heap.size,1,none⟩) (Nat.le_refl _) _⟩
theorem Xge (b:Nat)(h:HS)(w:World)(k:Xj w b h)(ok:h.ok):
  Calls Tryz.prog 158 #[.pointer (some ⟨b,0,none⟩)] w fun e w'=>∃p cap,e=.returned (.tuple #[fv (told (Qq h).2) p cap,.bool (Qq h).2.isSome])∧Bytes w' w.heap.size (told (Qq h).2) p cap∧Xj w' b (Qq h).1∧Xb (· =b) w w':=by
 have c0:=k.XdC;have c2:=k.XcE;have f0:=k.frozen;have hb:=k.lt;have hl:=ok.2.2;go_enter Tryz.func158,Tryz.ntmps158
 go_wp2
 go_quiet (fail)
 obtain⟨W,hW⟩:∃W,W=((w.alloc (Obj.cells #[Value.int IntKind.i64 0,Value.slice none 0 0] 65)).drewN nq):=⟨_,rfl⟩;have kW:Xj W b h:=by rw[hW];exact k.alloc _
 have hK:Xb (· =b) w W:=by rw[hW];exact((Xb.refl _ w).alloc _).drewN _
 have hR:W.heap[w.heap.size]?=some (.cells #[.int .i64 0,.slice none 0 0] 65 (0,0)):=by rw[hW];exact Array.getElem?_push_size
 rw[← hW];clear hW;clear c0 c2 f0;have c0:=kW.XdC;have c2:=kW.XcE;have f0:=kW.frozen;have hne:w.heap.size≠b:=by omega
 have r0:W.cell? ⟨w.heap.size,0,none⟩=some (.int .i64 0):=by rw[Lib.cell_of_heap hR];rfl
 have r1:W.cell? ⟨w.heap.size,1,none⟩=some (.slice none 0 0):=by rw[Lib.cell_of_heap hR];rfl
 have rf:∀i,W.frozen? ⟨w.heap.size,i,none⟩=false:=fun i=>Lib.frozen_of_heap hR i
 have ok1:HS.ok {h with on:=true,len:=0}:=⟨ok.1,ok.2.1,by simp⟩;by_cases hon:h.on=false
 ·have E1:Hid ((Qq h).2=none):=by show(Qq h).2=none;simp[Qq,hon]
  go_wp2
  rw[Xa E1];exact bodyPost_ret (v:=.tuple #[.agg #[.int .i64 0,.slice none 0 0],.bool false]) (by simp[results,Tryz.results158,go_sem,r0,r1]) rfl ⟨none,0,rfl,Bytes.none _ _ _,(((kW.XcN true).Jl 0).setOther hne _).setOther hne _,(((hK.setB _ _).setB _ _).Ze (Nat.le_refl _) _).Ze (Nat.le_refl _) _⟩
 ·simp only[Bool.not_eq_false]at hon;by_cases h6:6<h.len
  ·have E1:Hid ((Qq h).2=some (YS h.held (h.len-6))):=by show(Qq h).2=some (YS h.held (h.len-6));simp[Qq,hon,h6]
   have g1:¬((h.len:Int)-6≤0):=by omega
   have kV:Xj ((W.setCell ⟨b,0,none⟩ (.bool true)).setCell ⟨b,2,none⟩ (.int .i64 0)) b {h with on:=true,len:=0}:=(kW.XcN true).Jl 0;have hKV:Xb (· =b) w ((W.setCell ⟨b,0,none⟩ (.bool true)).setCell ⟨b,2,none⟩ (.int .i64 0)):=(hK.setB _ _).setB _ _
   have hRV:((W.setCell ⟨b,0,none⟩ (.bool true)).setCell ⟨b,2,none⟩ (.int .i64 0)).heap[w.heap.size]?=some (.cells #[.int .i64 0,.slice none 0 0] 65 (0,0)):=by
    rw[Below.heap_setCell _ _ _ _ hne,Below.heap_setCell _ _ _ _ hne];exact hR
   have HK:=hide kV;have HKK:=hide hKV;have HRV:=hide hRV;clear kV hKV hRV;go_wp2_with fail
   have kV:=Xa HK;have hKV:=Xa HKK;have hRV:=Xa HRV;clear HK HKK HRV;clear kW hK hR c0 c2 f0 r0 r1 rf;generalize ((W.setCell ⟨b,0,none⟩ (.bool true)).setCell ⟨b,2,none⟩ (.int .i64 0))=V at kV hKV hRV;have hj:=Xk0 b {h with on:=true,len:=0} (h.len-6) (by omega) (by omega) V kV ok1;rw[show(((h.len-6:Nat)):Int)=(h.len:Int)-6 by omega]at hj;refine hj.mono ?_;rintro e V1 ⟨p,cap,rfl,hby,hb1⟩;clear hj;have hltR:w.heap.size<V.heap.size:=(Array.getElem?_eq_some_iff.1 hRV).1;have hR1:V1.heap[w.heap.size]?=some (.cells #[.int .i64 0,.slice none 0 0] 65 (0,0)):=by rw[hb1.block _ hltR];exact hRV
   have k1:Xj V1 b {h with on:=true,len:=0}:=kV.keeps (Xb.of (X:=fun _=>False) hb1) (fun hh=>hh);have hK1:Xb (· =b) w V1:=hKV.trans (Xb.of hb1);have E1':(Qq h).2=some (YS h.held (h.len-6)):=Xa E1;generalize YS h.held (h.len-6)=f at hby E1'
   have hfin:Bytes ((V1.setCell ⟨w.heap.size,0,none⟩ (.int .i64 f.1)).setCell ⟨w.heap.size,1,none⟩ (.slice p f.2.length cap)) w.heap.size f p cap:=
    Xw (ownsRow_setCell_below (ownsRow_setCell_below hby (by exact hltR) _) (by exact hltR) _) (Nat.le_of_lt hltR)
   have HF:=hide hfin;have E2:=hide E1';clear hfin E1 E1' hby;have r0:V1.cell? ⟨w.heap.size,0,none⟩=some (.int .i64 0):=by rw[Lib.cell_of_heap hR1];rfl
   have r1:V1.cell? ⟨w.heap.size,1,none⟩=some (.slice none 0 0):=by rw[Lib.cell_of_heap hR1];rfl
   have rf:∀i,V1.frozen? ⟨w.heap.size,i,none⟩=false:=fun i=>Lib.frozen_of_heap hR1 i
   unfold fv;go_wp2
   rw[Xa E2];exact bodyPost_ret (v:=.tuple #[.agg #[.int .i64 f.1,.slice p f.2.length cap],.bool true]) (by simp[results,Tryz.results158,go_sem,r0,r1]) rfl ⟨p,cap,rfl,Xa HF,(k1.setOther hne _).setOther hne _,(hK1.Ze (Nat.le_refl _) _).Ze (Nat.le_refl _) _⟩
  ·have E1:Hid ((Qq h).2=none):=by show(Qq h).2=none;simp[Qq,h6]
   have g1:((h.len:Int)-6≤0):=by omega
   go_wp2
   rw[Xa E1];exact bodyPost_ret (v:=.tuple #[.agg #[.int .i64 0,.slice none 0 0],.bool false]) (by simp[results,Tryz.results158,go_sem,r0,r1]) rfl ⟨none,0,rfl,Bytes.none _ _ _,(((kW.XcN true).Jl 0).setOther hne _).setOther hne _,(((hK.setB _ _).setB _ _).Ze (Nat.le_refl _) _).Ze (Nat.le_refl _) _⟩
def Blank (w:World)(r:Nat):Prop:=w.heap[r]?=some (.cells #[.int .i64 0,.slice none 0 0] 65 (0,0))
theorem Blank.new (w:World):Blank (w.alloc (.cells #[.int .i64 0,.slice none 0 0] 65)) w.heap.size:=Array.getElem?_push_size
theorem Blank.lt {w:World}{r:Nat}(h:Blank w r):r<w.heap.size:=(Array.getElem?_eq_some_iff.1 h).1
theorem Blank.keeps {X:Nat→Prop}{w w':World}{r:Nat}(h:Blank w r)(hk:Xb X w w')(hx:¬X r):Blank w' r:=by
 show w'.heap[r]?=_
 rw[hk.block r h.lt hx];exact h
theorem Blank.c0 {w:World}{r:Nat}(h:Blank w r):w.cell? ⟨r,0,none⟩=some (.int .i64 0):=by rw[Lib.cell_of_heap h];rfl
theorem Blank.c1 {w:World}{r:Nat}(h:Blank w r):w.cell? ⟨r,1,none⟩=some (.slice none 0 0):=by rw[Lib.cell_of_heap h];rfl
theorem Blank.fz {w:World}{r:Nat}(h:Blank w r)(i:Nat):w.frozen? ⟨r,i,none⟩=false:=Lib.frozen_of_heap h i
theorem Xao {w:World}{B r:Nat}{f:Nat×List UInt8}{p:Option Addr}{cap:Nat}(h:Bytes w B f p cap)(hr:r<B){base:Nat}(hb:base≤B)(u v:Value):Bytes ((w.setCell ⟨r,0,none⟩ u).setCell ⟨r,1,none⟩ v) base f p cap:=
 Xw (ownsRow_setCell_below (ownsRow_setCell_below h (by exact hr) _) (by exact hr) _) hb
theorem XhS (b:Nat)(h:HS)(w:World)(k:Xj w b h)(ok:h.ok):
  Calls Tryz.prog 139 #[.pointer (some ⟨b,0,none⟩)] w fun e w'=>∃p cap,e=.returned (.tuple #[fv (told (Z5 h).2) p cap,.bool (Z5 h).2.isSome])∧Bytes w' w.heap.size (told (Z5 h).2) p cap∧Xj w' b (Z5 h).1∧Xb (· =b) w w':=by
 have c1:=k.Xda;have f0:=k.frozen;have hb:=k.lt;have ho:=ok.2.1;have okU:=Xme h ok;have hne:w.heap.size≠b:=by omega
 by_cases h7:h.ones=7
 ·rw[h7]at c1;have hup:upH h={h with ones:=7}:=by simp[upH,h7]
  have E1:Hid (Z5 h=Zb {h with ones:=7}):=by show Z5 h=_;unfold Z5 Xbf;rw[hup];simp
  have kU:Xj w b {h with ones:=7}:=by rw[← h7];exact k
  have HU:=hide kU;clear kU;clear hup h7;go_enter Tryz.func139,Tryz.ntmps139
  go_wp2_with fail
  have kU:=Xa HU;have hKU:Xb (· =b) w w:=Xb.refl _ _;have hBl:=Blank.new w;clear HU c1 f0;refine(XeM b {h with ones:=7} _ (kU.alloc _)).mono ?_;rintro e V1 ⟨p,cap,rfl,hby,k1,hK1⟩;have hBl1:=hBl.keeps hK1 hne;have hK2:Xb (· =b) w V1:=(hKU.alloc _).trans hK1;have hlt:=hBl.lt;have hE:=Xa E1;generalize Zb {h with ones:=7}=r at hby k1 hE;have hfin:=hide (Xao hby hlt (base:=w.heap.size) (Nat.le_of_lt hlt) (.int .i64 (told r.2).1) (.slice p (told r.2).2.length cap));have E2:=hide hE;clear hby hE E1;have r0:=hBl1.c0;have r1:=hBl1.c1;have rf:=hBl1.fz;generalize hto:told r.2=f at hfin;generalize hso:r.2.isSome=ok2;have HT:=hide hto;have HSo:=hide hso;clear hto hso;unfold fv;go_wp2
  rw[Xa E2,Xa HT,Xa HSo];exact bodyPost_ret (v:=.tuple #[.agg #[.int .i64 f.1,.slice p f.2.length cap],.bool ok2]) (by simp[results,Tryz.results139,go_sem,r0,r1]) rfl ⟨p,cap,rfl,Xa hfin,(k1.setOther hne _).setOther hne _,(hK2.Ze (Nat.le_refl _) _).Ze (Nat.le_refl _) _⟩
 by_cases h6:h.ones=6
 ·rw[h6]at c1;have hup:upH h={h with ones:=7}:=by simp[upH,h6]
  have E1:Hid (Z5 h=Zb {h with ones:=7}):=by show Z5 h=_;unfold Z5 Xbf;rw[hup];simp
  have kU:Xj (w.setCell ⟨b,1,none⟩ (.int .i64 7)) b {h with ones:=7}:=k.XeJ 7;have hKU:Xb (· =b) w (w.setCell ⟨b,1,none⟩ (.int .i64 7)):=(Xb.refl _ w).setB _ _;have hsz:(w.setCell ⟨b,1,none⟩ (.int .i64 7)).heap.size=w.heap.size:=by simp[World.setCell]
  have HU:=hide kU;have HKU:=hide hKU;have HSZ:=hide hsz;clear kU hKU hsz;clear hup h6;go_enter Tryz.func139,Tryz.ntmps139
  go_wp2_with fail
  have kU:=Xa HU;have hKU:=Xa HKU;have hsz:=Xa HSZ;clear HU HKU HSZ c1 f0;generalize (w.setCell ⟨b,1,none⟩ (.int .i64 7))=U at kU hKU hsz;have hBl:Blank (U.alloc (.cells #[.int .i64 0,.slice none 0 0] 65)) w.heap.size:=by rw[← hsz];exact Blank.new U
  refine(XeM b {h with ones:=7} _ (kU.alloc _)).mono ?_;rintro e V1 ⟨p,cap,rfl,hby,k1,hK1⟩;have hBl1:=hBl.keeps hK1 hne;have hK2:Xb (· =b) w V1:=(hKU.alloc _).trans hK1;have hlt:=hBl.lt;have hE:=Xa E1;generalize Zb {h with ones:=7}=r at hby k1 hE;have hfin:=hide (Xao hby hlt (base:=w.heap.size) (Nat.le_of_lt hlt) (.int .i64 (told r.2).1) (.slice p (told r.2).2.length cap));have E2:=hide hE;clear hby hE E1;have r0:=hBl1.c0;have r1:=hBl1.c1;have rf:=hBl1.fz;generalize hto:told r.2=f at hfin;generalize hso:r.2.isSome=ok2;have HT:=hide hto;have HSo:=hide hso;clear hto hso;unfold fv;go_wp2
  rw[Xa E2,Xa HT,Xa HSo];exact bodyPost_ret (v:=.tuple #[.agg #[.int .i64 f.1,.slice p f.2.length cap],.bool ok2]) (by simp[results,Tryz.results139,go_sem,r0,r1]) rfl ⟨p,cap,rfl,Xa hfin,(k1.setOther hne _).setOther hne _,(hK2.Ze (Nat.le_refl _) _).Ze (Nat.le_refl _) _⟩
 have hup:upH h={h with ones:=h.ones+1}:=by unfold upH;rw[if_pos (by omega)]
 have g7:((h.ones:Int)+1==7)=false:=by simp;omega
 have g8:(h.ones:Int)<7:=by omega
 have kU:Xj (w.setCell ⟨b,1,none⟩ (.int .i64 ((h.ones:Int)+1))) b {h with ones:=h.ones+1}:=k.XeJ (h.ones+1);have hKU:Xb (· =b) w (w.setCell ⟨b,1,none⟩ (.int .i64 ((h.ones:Int)+1))):=(Xb.refl _ w).setB _ _;have hsz:(w.setCell ⟨b,1,none⟩ (.int .i64 ((h.ones:Int)+1))).heap.size=w.heap.size:=by simp[World.setCell]
 have HU:=hide kU;have HKU:=hide hKU;have HSZ:=hide hsz;clear kU hKU hsz;by_cases h5:h.ones=5
 ·have E1:Hid (Z5 h=({h with ones:=h.ones+1},none)):=by show Z5 h=_;unfold Z5 Xbf;rw[hup];simp[h5]
  have g5:¬(h.ones:Int)+1≤5:=by omega
  clear hup h5 h6 h7;go_enter Tryz.func139,Tryz.ntmps139
  go_wp2
  have kU:=Xa HU;have hKU:=Xa HKU;rw[Xa E1];exact bodyPost_ret (v:=.tuple #[.agg #[.int .i64 0,.slice none 0 0],.bool false]) (by simp[results,Tryz.results139,go_sem]) rfl ⟨none,0,rfl,Bytes.none _ _ _,kU.alloc _,hKU.alloc _⟩
 ·have E1:Hid (Z5 h=(ZE {h with ones:=h.ones+1} true,none)):=by
   show Z5 h=_;unfold Z5 Xbf;rw[hup]
   have a1:¬h.ones+1=7:=by omega
   have a2:h.ones+1≤5:=by omega
   simp only[if_neg a1,if_pos a2]
  have g5:(h.ones:Int)+1≤5:=by omega
  have okU2:HS.ok {h with ones:=h.ones+1}:=by rw[← hup];exact okU
  clear hup h5 h6 h7;go_enter Tryz.func139,Tryz.ntmps139
  go_wp2_with fail
  have kU:=Xa HU;have hKU:=Xa HKU;have hsz:=Xa HSZ;clear HU HKU HSZ c1 f0;generalize (w.setCell ⟨b,1,none⟩ (.int .i64 ((h.ones:Int)+1)))=U at kU hKU hsz;have hBl:Blank (U.alloc (.cells #[.int .i64 0,.slice none 0 0] 65)) w.heap.size:=by rw[← hsz];exact Blank.new U
  refine(add_any b {h with ones:=h.ones+1} true 1 rfl _ (kU.alloc _) okU2).mono ?_;rintro e V1 ⟨rfl,k1,hK1⟩;have hBl1:=hBl.keeps hK1 hne;have hK2:Xb (· =b) w V1:=(hKU.alloc _).trans hK1;have r0:=hBl1.c0;have r1:=hBl1.c1;have rf:=hBl1.fz;go_wp2
  rw[Xa E1];exact bodyPost_ret (v:=.tuple #[.agg #[.int .i64 0,.slice none 0 0],.bool false]) (by simp[results,Tryz.results139,go_sem,r0,r1]) rfl ⟨none,0,rfl,Bytes.none _ _ _,(k1.setOther hne _).setOther hne _,(hK2.Ze (Nat.le_refl _) _).Ze (Nat.le_refl _) _⟩
end Go.Proofs.YtkalonhalhdlaaaGreatDoor
namespace Go.Proofs.YtkalonhalhdlaaaGreatDoor
def val:List Bool→Nat
 | []=>0
 |b::r=>(if b then 1 else 0)+2*val r
theorem val_append (a b:List Bool):val (a++b)=val a+2 ^ a.length*val b:=by
 induction a with
 |nil=>simp[val]
 |cons x r ih=>
  simp only[List.cons_append,val,ih,List.length_cons,Nat.pow_succ];rw[Nat.mul_add];have:2*(2 ^ r.length*val b)=2 ^ r.length*2*val b:=by rw[Nat.mul_comm (2 ^ r.length) 2,Nat.mul_assoc]
  omega
theorem Xmf (a:List Bool):val a<2 ^ a.length:=by
 induction a with
 |nil=>simp[val]
 |cons x r ih=>
  simp only[val,List.length_cons,Nat.pow_succ];split <;> omega
def Yd:Nat→List Bool→List UInt8
 |0,_=> []
 |n+1,l=>UInt8.ofNat (val (l.take 8))::Yd n (l.drop 8)
theorem Zk (n:Nat)(l:List Bool):(Yd n l).length=n:=by
 induction n generalizing l with
 |zero=>rfl
 |succ n ih=>simp[Yd,ih]
theorem Xd4 (n:Nat)(l:List Bool)(i:Nat)(h:i<n):(Yd n l).getD i 0=UInt8.ofNat (val ((l.drop (8*i)).take 8)):=by
 induction n generalizing l i with
 |zero=>omega
 |succ n ih=>
  cases i with
  |zero=>simp[Yd]
  |succ i=>
   have:=ih (l.drop 8) i (by omega);simp only[Yd,List.getD_cons_succ];rw[this,List.drop_drop];congr 4
   omega
def Yg (l:List Bool):Nat×List UInt8:=
 if l.length<32 then(3,[])
 else if l.length%8≠0 then(4,[])
 else if 528<l.length then(6,[])
 else if(Yd (l.length / 8) l).drop (l.length / 8-2)=Y4 ((Yd (l.length / 8) l).take (l.length / 8-2))then(1,(Yd (l.length / 8) l).take (l.length / 8-2))else(5,[])
structure IH where
 on:Bool
 c:Nat
 has:List Bool
def Ya (s:IH)(b:Bool):IH×Option (Nat×List UInt8):=
 if b then
  if s.c=6 then(⟨false,7,[]⟩,if s.on=true∧6<s.has.length then some (2,[])else none)
  else if s.c=7 then(⟨false,7,[]⟩,if s.on=true∧6<s.has.length then some (2,[])else none)
  else(⟨s.on,s.c+1,if s.on=true∧s.c+1≤5 then s.has++[true]else s.has⟩,none)
 else
  if s.c=6 then(⟨true,0,[]⟩,if s.on=true∧6<s.has.length then some (Yg (s.has.take (s.has.length-6)))else none)
  else if s.c=5 then(⟨s.on,0,s.has⟩,none)
  else(⟨s.on,0,if s.on=true then s.has++[false]else s.has⟩,none)
def Yp:IH→List Bool→IH×List (Nat×List UInt8)
 |s,[]=>(s,[])
 |s,b::r=>((Yp (Ya s b).1 r).1,(Ya s b).2.toList++(Yp (Ya s b).1 r).2)
def ZA (n:Nat):Nat:=if n<535 then n else 535+(n-535)%8
def Rep (h:HS)(has:List Bool):Prop:=
 h.len=ZA has.length∧∀i,i<66→8*i≤has.length→(h.held.getD i 0).toNat / 2 ^ (8-min 8 (has.length-8*i))=val ((has.drop (8*i)).take 8)
def Sim (h:HS)(s:IH):Prop:=h.on=s.on∧h.ones=s.c∧s.c≤7∧h.held.length=66∧(s.on=true→Rep h s.has)∧(s.on=false→s.has=[])
end Go.Proofs.YtkalonhalhdlaaaGreatDoor
