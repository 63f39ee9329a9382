import Derived.Test.YtkalonhalhdlaaaGreatDoorProg
import Derived.Lib.FrozenHead2
import Derived.Shelf.Bytes.SlEqualAll
import Derived.BigQuiet
import Derived.Lib.BufferWrite
import Derived.Deep.WholeRow
import Derived.WalkSpells
import Derived.Lib.AppendZerosOnto
import Derived.WalkSmall
set_option maxHeartbeats 4000000
set_option maxRecDepth 1000000
namespace Go.Proofs.YtkalonhalhdlaaaGreatDoor
open Go.RowKit
theorem hide {p:Prop}(h:p):Hid p:=h
theorem Xa {p:Prop}(h:Hid p):p:=h
def Seg (w:World)(b off:Nat)(l:List UInt8):Prop:=∀i,i<l.length→w.cell? ⟨b,off+i,none⟩=some (.int .u8 ((l.getD i 0).toNat:Int))
theorem YI {k:IntKind}{a b:Int}(h:a=b):Ending.returned (.int k a)=.returned (.int k b):=by rw[h]
theorem Xr {a b:Bool}(h:a=b):Ending.returned (.bool a)=.returned (.bool b):=by rw[h]
theorem Seg.below {w w':World}{b off:Nat}{l:List UInt8}(h:Seg w b off l){B:Nat}(hb:Below B w w')(hB:b<B):Seg w' b off l:=
 fun i hi=>by rw[hb.cell (p:=⟨b,off+i,none⟩) hB];exact h i hi
theorem infoByte:(Tryz.prog.info? 5).map (fun i=>(i.zero,i.size,i.bytes))=some (some (.int .u8 0),1,1):=by kernel_rfl
theorem Seg.news {w:World}{b off:Nat}{l:List UInt8}(h:Seg w b off l):∀j u,(Lib.byteCells l)[j]?=some u→w.cell? ((⟨b,off,none⟩:Addr).add j)=some u:=by
 intro j u hj
 have hl:j<l.length:=by
  have:=(List.getElem?_eq_some_iff.1 hj).1;simpa[Lib.byteCells]using this
 rw[Go.WideShapes.add_plain,h j hl,←hj];simp[Lib.byteCells,List.getD,hl]
theorem byteCells_one (l:List UInt8):∀u∈Lib.byteCells l,u.oneCell'=true:=by
 intro u hu;simp[Lib.byteCells]at hu;obtain⟨x,_,rfl⟩:=hu;rfl
theorem Xhb {w:World}{base n:Nat}{v:Value}{l:List UInt8}(h:w.ownsRow base 5 1 v n (Lib.byteCells l))(hn:n=l.length)(h0:0<n):∃g cap,v=.slice (some ⟨g,0,none⟩) n cap∧Seg w g 0 l:=by
 rcases h.2 with⟨_,he⟩|⟨g,cap,cur,hv,_,hg,_,_,_,ht⟩
 ·omega
 ·refine ⟨g,cap,hv,?_⟩;intro i hi;have q:(cur.toList.take (n*1))[i]?=(Lib.byteCells l)[i]?:=by rw[ht]
  rw[Nat.zero_add,Lib.cell_of_heap hg];simp[show i<n by omega]at q;simp[q,Lib.byteCells,List.getD,hi]
def nums (l:List UInt8):List Int:=l.map fun x=>(x.toNat:Int)
theorem nums_length (l:List UInt8):(nums l).length=l.length:=by simp[nums]
theorem nums_getD (l:List UInt8)(i:Nat)(h:i<l.length):(nums l).getD i 0=((l.getD i 0).toNat:Int):=by simp[nums,List.getD,h]
theorem JR (l:List UInt8):Lib.bytesOf (nums l)=l:=by
 induction l with
 |nil=>rfl
 |cons x r ih=>
  simp only[nums,Lib.bytesOf,List.map_cons,List.map_map]at ih⊢;rw[ih];simp
theorem nums_cells (l:List UInt8):(nums l).map (Value.int .u8)=Lib.byteCells l:=by simp[nums,Lib.byteCells]
theorem Seg.bytesIn {w:World}{b off:Nat}{l:List UInt8}(h:Seg w b off l):Lib.BytesIn w (some ⟨b,off,none⟩) l.length (nums l):=
 Lib.BytesIn.of_cells fun i hi=>by rw[Go.WideShapes.add_plain,h i hi,nums_getD l i hi]
theorem Xw {w:World}{b0 b1:Nat}{e:TypeId}{size:Nat}{v:Value}{n:Nat}{xs:List Value}(h:w.ownsRow b1 e size v n xs)(hb:b0≤b1):w.ownsRow b0 e size v n xs:=by
 obtain⟨h1,h2⟩:=h;refine⟨h1,?_⟩;rcases h2 with h2|⟨g,cap,cur,e1,e2,e3⟩
 ·exact Or.inl h2
 ·exact Or.inr ⟨g,cap,cur,e1,by omega,e3⟩
theorem YH {w:World}{base:Nat}{e:TypeId}{size:Nat}{v:Value}{n:Nat}{xs:List Value}(h:w.ownsRow base e size v n xs)(p:Addr)(hp:p.block<base)(u:Value):(w.setCell p u).ownsRow base e size v n xs:=by
 obtain⟨h1,h2⟩:=h;refine⟨h1,?_⟩;rcases h2 with h2|⟨g,cap,cur,e1,e2,e3,e4⟩
 ·exact Or.inl h2
 ·exact Or.inr ⟨g,cap,cur,e1,e2,by rw[Below.heap_setCell w p u g (by omega)];exact e3,e4⟩
theorem Q3 {w:World}{base:Nat}{e:TypeId}{size:Nat}{v:Value}{n:Nat}{xs:List Value}(h:w.ownsRow base e size v n xs):∃q c,v=.slice q n c:=by
 rcases h.2 with⟨rfl,rfl⟩|⟨g,cap,_,rfl,_⟩
 ·exact ⟨none,0,rfl⟩
 ·exact ⟨some ⟨g,0,none⟩,cap,rfl⟩
theorem Xbj {P:Program}(w:World){ops:Array Oper}{o:Oper}{a:Act}{K:Act→World→Prop}{Q:Exit→Act→World→Prop}{E:Prop}(hgd:o.guard=none)(s x:Operand)(t:TypeId)
  (ho:o.op=.call {callee:=.builtin .append,args:= #[s,x],argTypes:= #[t,t]})
  (base:Nat) (e:TypeId) (i:TypeInfo) (z:Value) (size bytes:Nat) (ht:P.underlying t=some (.slice e)) (hi:P.info? e=some i) (hz:i.zero=some z)
  (hsize:i.size=size) (hby:i.bytes=bytes) (hzs:z.cells.size=size) (hsz:0<size)
  (v:Value) (n:Nat) (xs:List Value) (hs:a.eval s=v) (hown:w.ownsRow base e size v n xs)
  (ad:Addr) (m c:Nat) (news:List Value) (hx:a.eval x=.slice (some ad) m c) (hl:news.length=m*size) (hnews:∀j u,news[j]?=some u→w.cell? (ad.add j)=some u) (h1:∀u∈news,u.oneCell'=true)
  (h63:n+m≤maxLen) (hbytes:(n+m)*bytes≤140737488355328) (hbase:base≤w.heap.size)
  (h:∀v' w',w'.ownsRow base e size v' (n+m) (xs++news)→w.grownBy w' v.ownBlock→(v'=.slice none 0 0↔v=.slice none 0 0∧m=0)→K (a.put o.dst v') w'):
  if Region.wanted o (yielded ops a.tmps)=true then Oper.wp P o a w K Q else E:=by
 have hw:Region.wanted o (yielded ops a.tmps)=true:=by simp[Region.wanted,hgd]
 rw[if_pos hw];exact wp_append_own w s x t ho base e i z size bytes ht hi hz hsize hby hzs hsz v n xs hs hown ad m c news hx hl hnews h1 h63 hbytes hbase h
theorem ZM {P:Program}(w:World){ops:Array Oper}{rest:List Oper}{o:Oper}{a:Act}{Q:Exit→Act→World→Prop}(hgd:o.guard=none)(s x:Operand)(t:TypeId)
  (ho:o.op=.call {callee:=.builtin .append,args:= #[s,x],argTypes:= #[t,t]})
  (e:TypeId) (i:TypeInfo) (ht:P.underlying t=some (.slice e)) (hi:P.info? e=some i)
  (g n cap c:Nat) (hs:a.eval s=.slice (some ⟨g,0,none⟩) n cap) (hnc:n≤cap) (hx:a.eval x=.slice none 0 c)
  (h:wpList P ops Q rest (a.put o.dst (.slice (some ⟨g,0,none⟩) n cap)) w):wpList P ops Q (o::rest) a w:=by
 refine Lib.wpList_append_run w hgd s x t t ho _ _ hs hx _ _ ?_ h;have:=run_append_room_src (P:=P) w t t o.type e i ht hi g 0 n cap (.slice none 0 c) 0 [] (Src.ofNil w ht c) hnc (by simp) (by simp);simpa[World.setCells]using this
structure Xb (X:Nat→Prop)(w w':World):Prop where
 os:w'.os=w.os
 tape:w'.tape=w.tape
 output:w'.output=w.output
 size:w.heap.size≤w'.heap.size
 block:∀k,k<w.heap.size→¬X k→w'.heap[k]?=w.heap[k]?
theorem Xb.refl (X:Nat→Prop)(w:World):Xb X w w:=⟨rfl,rfl,rfl,Nat.le_refl _,fun _ _ _=>rfl⟩
theorem Xb.trans {X:Nat→Prop}{a b c:World}(h:Xb X a b)(k:Xb X b c):Xb X a c:=
 ⟨k.os.trans h.os,k.tape.trans h.tape,k.output.trans h.output,Nat.le_trans h.size k.size,fun i hi hx=>(k.block i (Nat.lt_of_lt_of_le hi h.size) hx).trans (h.block i hi hx)⟩
theorem Xb.mono {X Y:Nat→Prop}{a b:World}(h:Xb X a b)(hXY:∀k,X k→Y k):Xb Y a b:=
 ⟨h.os,h.tape,h.output,h.size,fun i hi hx=>h.block i hi fun hh=>hx (hXY i hh)⟩
theorem Xb.of {X:Nat→Prop}{w w':World}(h:Below w.heap.size w w'):Xb X w w':=⟨h.os,h.tape,h.output,h.size,fun k hk _=>h.block k hk⟩
theorem Xb.alloc {X:Nat→Prop}{a w:World}(h:Xb X a w)(o:Obj):Xb X a (w.alloc o):=
 h.trans (Xb.of ((Below.refl _ w).alloc (Nat.le_refl _) o))
theorem Xb.drew {X:Nat→Prop}{a w:World}(h:Xb X a w):Xb X a w.drew:=⟨h.os,h.tape,h.output,h.size,h.block⟩
theorem Xb.drewN {X:Nat→Prop}{a w:World}(h:Xb X a w)(n:Nat):Xb X a (w.drewN n):=⟨h.os,h.tape,h.output,h.size,h.block⟩
theorem Xb.setCell {X:Nat→Prop}{a w:World}(h:Xb X a w){p:Addr}(hp:X p.block)(u:Value):Xb X a (w.setCell p u):=
 h.trans ⟨rfl,rfl,rfl,by simp[World.setCell],fun k _ hx=>Below.heap_setCell _ _ _ _ (fun e=>hx (e▸hp))⟩
theorem Xb.setB {b:Nat}{a w:World}(h:Xb (· =b) a w)(off:Nat)(u:Value):Xb (· =b) a (w.setCell ⟨b,off,none⟩ u):=h.setCell (p:=⟨b,off,none⟩) rfl u
theorem Xb.Ze {X:Nat→Prop}{a w:World}(h:Xb X a w){p:Addr}(hp:a.heap.size≤p.block)(u:Value):Xb X a (w.setCell p u):=
 ⟨h.os,h.tape,h.output,by rw[show(w.setCell p u).heap.size=w.heap.size by simp[World.setCell]];exact h.size,fun k hk hx=>(Below.heap_setCell _ _ _ _ (by omega)).trans (h.block k hk hx)⟩
theorem Xb.cell {X:Nat→Prop}{w w':World}(h:Xb X w w'){p:Addr}(hp:p.block<w.heap.size)(hx:¬X p.block):w'.cell? p=w.cell? p:=World.cell?_of_block (w:=w) (h.block p.block hp hx)
theorem XQ {X:Nat→Prop}{w w':World}{b0:Nat}{e:TypeId}{size:Nat}{v:Value}{n:Nat}{xs:List Value}(h:w.ownsRow b0 e size v n xs)(hk:Xb X w w')(hx:∀k,X k→∀c fz,w.heap[k]?≠some (.cells c e fz)):w'.ownsRow b0 e size v n xs:=by
 obtain⟨h1,h2⟩:=h;refine⟨h1,?_⟩;rcases h2 with h2|⟨g,cap,cur,e1,e2,e3,e4⟩
 ·exact Or.inl h2
 ·exact Or.inr ⟨g,cap,cur,e1,e2,by rw[hk.block g (Array.getElem?_eq_some_iff.1 e3).1 (fun hg=>hx g hg _ _ e3)];exact e3,e4⟩
theorem Xb.grown {w w':World}{row:Option Nat}(h:w.grownBy w' row):Xb (fun k=>some k=row) w w':=⟨h.os,h.tape,h.output,h.size,fun k hk hx=>h.block k hk hx⟩
def Mine (X:Nat→Prop)(n:Nat)(v:Value):Prop:=∀k,v.ownBlock=some k→X k∨n≤k
theorem Mine.nil (X:Nat→Prop)(n:Nat):Mine X n (.slice none 0 0):=fun k h=>by simp[Value.ownBlock]at h
theorem Xd {w:World}{base:Nat}{e:TypeId}{size:Nat}{v:Value}{n:Nat}{xs:List Value}(h:w.ownsRow base e size v n xs){k:Nat}(hk:v.ownBlock=some k):∃c,w.heap[k]?=some (.cells c e (0,0)):=by
 rcases h.2 with⟨hv,_⟩|⟨g,cap,cur,hv,_,hg,_⟩
 ·rw[hv]at hk;simp[Value.ownBlock]at hk
 ·rw[hv]at hk;simp[Value.ownBlock]at hk;subst hk;exact⟨cur,hg⟩
theorem size_setCell (w:World)(p:Addr)(u:Value):(w.setCell p u).heap.size=w.heap.size:=by
 show(w.heap.modify _ _).size=_
 rw[Array.size_modify]
theorem Xk (w:World)(o:Obj):(w.alloc o).heap.size=w.heap.size+1:=by
 show(w.heap.push o).size=_
 rw[Array.size_push]
theorem Xg (w:World)(o:Obj):(w.alloc o).heap[w.heap.size]?=some o:=by
 show(w.heap.push o)[w.heap.size]?=some o
 rw[Array.getElem?_push];simp
theorem QR (w:World)(u:Value)(e:TypeId):∀j x,[u][j]?=some x→(w.alloc (.cells #[u] e)).cell? ((⟨w.heap.size,0,none⟩:Addr).add j)=some x:=by
 intro j x hj;rcases j with _|j
 ·simp at hj;subst hj;rw[Go.WideShapes.add_plain,Lib.cell_of_heap (Xg w _)];rfl
 ·simp at hj
theorem XjB (w:World)(a b:Value)(e:TypeId):∀j x,[a,b][j]?=some x→(w.alloc (.cells #[a,b] e)).cell? ((⟨w.heap.size,0,none⟩:Addr).add j)=some x:=by
 intro j x hj;rcases j with _|_|j
 ·simp at hj;subst hj;rw[Go.WideShapes.add_plain,Lib.cell_of_heap (Xg w _)];rfl
 ·simp at hj;subst hj;rw[Go.WideShapes.add_plain,Lib.cell_of_heap (Xg w _)];rfl
 ·simp at hj
theorem Seg.take {w:World}{b off:Nat}{l:List UInt8}(h:Seg w b off l)(n:Nat):Seg w b off (l.take n):=by
 intro i hi;have hi2:i<n∧i<l.length:=by rw[List.length_take]at hi;omega
 rw[h i hi2.2];simp[List.getD,hi2.1]
theorem Xc2 (c n:Int)(w:World)(hc: -9223372036854775808≤c∧c≤9223372036854775807)(hn:0<n)(hn2:n≤9223372036854775807):
  Calls Tryz.prog 16 #[.int .i64 c,.int .i64 n] w fun e w'=>(∃ r:Nat,(r:Int)<n∧e=.returned (.int .i64 r))∧w'=w:=by
 by_cases h0:c<0
 ·go_enter Tryz.func16,Tryz.ntmps16
  go_wp2
  go_ret
  have h1:(-(c+1)).tmod n=(-(c+1))%n:=Int.tmod_eq_emod_of_nonneg (by omega);have h2: -((c+1).tmod n)=(-(c+1))%n:=by rw[← h1,Int.neg_tmod]
  have h3:=Int.emod_nonneg (-(c+1)) (show n≠0 by omega);have h4:=Int.emod_lt_of_pos (-(c+1)) hn;refine⟨⟨((-(c+1))%n).toNat,by omega,?_⟩,rfl⟩;show Ending.returned (.int .i64 (-((c+1).tmod n)))=_
  rw[h2];exact YI (by omega)
 ·go_enter Tryz.func16,Tryz.ntmps16
  go_wp2
  go_ret
  have h3:=Int.emod_nonneg c (show n≠0 by omega);have h4:=Int.emod_lt_of_pos c hn;refine⟨⟨(c%n).toNat,by omega,?_⟩,rfl⟩;show Ending.returned (.int .i64 (c%n))=_
  exact YI (by omega)
def Ja (n:Nat):Nat:=200+n / 4%50
theorem Xdi (n:Nat)(w:World)(hn:n≤maxLen):
  Calls Tryz.prog 23 #[.int .i64 (n:Int)] w fun e w'=>e=.returned (.int .u8 (Ja n:Nat))∧w'=w:=by
 unfold maxLen at hn;go_enter Tryz.func23,Tryz.ntmps23
 go_wp2
 go_ret
 refine⟨?_,rfl⟩;apply congrArg Ending.returned
 simp[Ja]
def Yu (w:World)(g:Nat)(l:List UInt8):Prop:=w.heap[g]?=some (.cells (Lib.byteCells l).toArray 5 (0,0))
section
variable {w:World}{g:Nat}{l:List UInt8}
theorem Yu.lt (h:Yu w g l):g<w.heap.size:=(Array.getElem?_eq_some_iff.1 h).1
theorem Yu.cell (h:Yu w g l)(i:Nat)(hi:i<l.length):w.cell? ⟨g,i,none⟩=some (.int .u8 ((l.getD i 0).toNat:Int)):=by
 rw[Lib.cell_of_heap h];simp[Lib.byteCells,List.getD,hi]
theorem Yu.fz (h:Yu w g l)(i:Nat):w.frozen? ⟨g,i,none⟩=false:=Lib.frozen_of_heap h i
theorem Yu.set (h:Yu w g l)(i:Nat)(x:UInt8):Yu (w.setCell ⟨g,i,none⟩ (.int .u8 (x.toNat:Int))) g (l.set i x):=by
 unfold Yu at*;simp[World.setCell,Array.getElem?_modify,h,Lib.byteCells]
theorem Yu.seg (h:Yu w g l):Seg w g 0 l:=fun i hi=>by rw[Nat.zero_add];exact h.cell i hi
theorem Yu.below {w':World}{B:Nat}(h:Yu w g l)(hb:Below B w w')(hB:g<B):Yu w' g l:=by
 unfold Yu;rw[hb.block g hB];exact h
theorem Yu.keeps {w':World}{X:Nat→Prop}(h:Yu w g l)(hb:Xb X w w')(hB:¬X g):Yu w' g l:=by
 unfold Yu;rw[hb.block g h.lt hB];exact h
end
def ZO (s:ByteArray):List UInt8:=s.data.toList++List.replicate 8 77
theorem Xcr (s:ByteArray):(ZO s).length=s.size+8:=by simp[ZO]
theorem XmY (n:Nat)(hn:n≤1099511627784)(w:World):(Instr.makeSlice 28 (.int .i64 (n:Int)) (.int .i64 (n:Int))).run Tryz.prog w=.ok (.slice (some ⟨w.heap.size,0,none⟩) n n) (w.alloc (.cells (Lib.byteCells (List.replicate n 0)).toArray 5)):=by
 obtain⟨i0,hi,hz0,hz1,hz2⟩:=info_parts infoByte;rw[run_make w 28 5 i0 (.int .u8 0) Tryz.underlying28 hi hz0 .i64 .i64 n n (by omega) (Int.le_refl _) (by rw[hz2];omega) (by omega)]
 have e:madeCells (Value.cells (.int .u8 0)) ((n:Int).toNat*i0.size)=(Lib.byteCells (List.replicate n 0)).toArray:=by
  rw[hz1];apply Array.ext
  ·simp[size_madeCells,Lib.byteCells]
  ·intro j h1 h2;simp[madeCells,Value.cells,Lib.byteCells,Nat.mod_one]
 rw[e];simp
theorem XbW (s:ByteArray):s.toList=[]↔s.size=0:=by
 rw[ByteArray.toList_eq];constructor
 ·intro h;show s.data.size=0
  rw[← Array.length_toList,h];rfl
 ·intro h;exact List.length_eq_zero_iff.1 (by rw[Array.length_toList];exact h)
theorem XhZ (s:ByteArray):(List.take 0 (Lib.byteCells (List.replicate (s.size+8) (0:UInt8)))++Lib.byteCells s.data.toList++List.drop (0+s.size) (Lib.byteCells (List.replicate (s.size+8) (0:UInt8)))).toArray=(Lib.byteCells (s.data.toList++List.replicate 8 0)).toArray:=by
 congr 1
 simp[Lib.byteCells]
theorem XgN (s:ByteArray)(k:Nat)(hk:k<8):(s.data.toList++(List.replicate k 77++List.replicate (8-k) (0:UInt8))).set (s.size+k) 77=s.data.toList++(List.replicate (k+1) 77++List.replicate (8 -(k+1)) 0):=by
 have e:s.size=s.data.toList.length:=by simp
 rw[e,List.set_append_right _ _ (by omega)];congr 1
 have e2:s.data.toList.length+k-s.data.toList.length=k:=by omega
 rw[e2];apply List.ext_getElem
 ·simp;omega
 ·intro i h1 h2;rw[List.getElem_set];simp only[List.getElem_append,List.length_replicate,List.getElem_replicate];split
  ·rename_i e;subst e;simp
  ·split <;> split <;> first|rfl|omega
theorem XmU (s:ByteArray)(raw:Int)(w:World)(h0:s.size=0)(h1:raw.tmod 2≠0):
  Calls Tryz.prog 24 #[.string s,.int .i64 raw] w fun e w'=>e=.returned (.slice none 0 0)∧w'=w:=by
 have g0:s.toList=[]:=(XbW s).2 h0;have g1:(raw.tmod 2 != 0)=true:=by simpa using h1
 go_enter Tryz.func24,Tryz.ntmps24
 go_wp2
 go_ret
 exact⟨rfl,rfl⟩
theorem XkM (s:ByteArray)(w:World):∃W1,(Builtin.copy_ #[28,9] 3 #[.slice (some ⟨w.heap.size,0,none⟩) (s.size+8) (s.size+8),.string s]).run Tryz.prog (w.alloc (.cells (Lib.byteCells (List.replicate (s.size+8) 0)).toArray 5))=.ok (.int .i64 s.size) W1∧Yu W1 w.heap.size (s.data.toList++(List.replicate 0 77++List.replicate (8-0) 0))∧Below w.heap.size w W1∧W1.heap.size=w.heap.size+1:=by
 have h:=Lib.run_copy_row_string (P:=Tryz.prog) (w.alloc (.cells (Lib.byteCells (List.replicate (s.size+8) 0)).toArray 5)) 28 9 3 5 w.heap.size 0 (s.size+8) (s.size+8) s _ 5 Tryz.underlying28 (by kernel_rfl) (Xg w _) (by omega) (by simp[Lib.byteCells]);rw[World.setRow_alloc_new]at h;have e:=XhZ s;refine⟨_,h,?_,(Below.refl _ w).alloc (Nat.le_refl _) _,Xk w _⟩;unfold Yu;rw[Xg,e];simp
theorem Xld (s:ByteArray)(raw:Int)(w:World)(hs:s.size≤1099511627776)(hne:¬(s.size=0∧raw.tmod 2≠0)):
  Calls Tryz.prog 24 #[.string s,.int .i64 raw] w fun e w'=>e=.returned (.slice (some ⟨w.heap.size,0,none⟩) s.size (s.size+8))∧Yu w' w.heap.size (ZO s)∧Below w.heap.size w w'∧w'.heap.size=w.heap.size+1:=by
 have hmk:∀w:World,(Instr.makeSlice 28 (.int .i64 ((s.size:Int)+8)) (.int .i64 ((s.size:Int)+8))).run Tryz.prog w=.ok (.slice (some ⟨w.heap.size,0,none⟩) (s.size+8) (s.size+8)) (w.alloc (.cells (Lib.byteCells (List.replicate (s.size+8) 0)).toArray 5)):=XmY (s.size+8) (by omega);obtain⟨W1,hcp,hrow,hbel,hsz⟩:=XkM s w;have main:∀(K:Prop),K→K:=fun _ h=>h
 by_cases h0:s.size=0
 ·have g0:s.toList=[]:=(XbW s).2 h0
  have g1:(raw.tmod 2 != 0)=false:=by
   by_cases h:raw.tmod 2=0
   ·simp[h]
   ·exact absurd ⟨h0,h⟩ hne
  clear hne h0 main;go_enter Tryz.func24,Tryz.ntmps24
  go_wp2
  go_loopw [7] (fun v wr=>∃(k:Nat),k≤8∧v=.int .i64 (s.size+k:Nat)∧Yu wr w.heap.size (s.data.toList++(List.replicate k 77++List.replicate (8-k) 0))∧Below w.heap.size w wr∧wr.heap.size=w.heap.size+1) (fun v _=>s.size+8 -(intOf v).toNat)
  case atStart=>exact⟨0,Nat.zero_le _,rfl,hrow,hbel,hsz⟩
  case round=>
   clear hrow hbel hsz hcp;obtain⟨k,hk,rfl,hrow,hbel,hsz⟩:=hrel;by_cases hlt:k<8
   ·have c0:=hrow.cell (s.size+k) (by simp;omega);have fz:=hrow.fz;have hput:=hrow.set (s.size+k) 77;rw[XgN s k hlt]at hput;have HP:=hide hput;have HB:=hide ((hbel.setCell (p:=⟨w.heap.size,s.size+k,none⟩) (Nat.le_refl _) (.int .u8 ((77:UInt8).toNat:Int))));have HZ:=hide ((size_setCell wr ⟨w.heap.size,s.size+k,none⟩ (.int .u8 ((77:UInt8).toNat:Int))).trans hsz);clear hput;go_wp2
    go_roundw
    case rel=>exact⟨k+1,hlt,by go_num,Xa HP,Xa HB,Xa HZ⟩
    case measure=>simp[intOf];omega
   ·have e8:k=8:=by omega
    subst e8;have HR:Hid (Yu wr w.heap.size (ZO s)):=by show Yu _ _ _;simpa[ZO]using hrow
    clear hrow;go_wp2
    go_ret
    exact⟨by simp,Xa HR,hbel,hsz⟩
 ·have g0:¬s.toList=[]:=fun h=>h0 ((XbW s).1 h)
  have g1:s.toList.isEmpty=false:=by simpa using g0
  clear hne h0 main;go_enter Tryz.func24,Tryz.ntmps24
  go_wp2
  go_loopw [7] (fun v wr=>∃(k:Nat),k≤8∧v=.int .i64 (s.size+k:Nat)∧Yu wr w.heap.size (s.data.toList++(List.replicate k 77++List.replicate (8-k) 0))∧Below w.heap.size w wr∧wr.heap.size=w.heap.size+1) (fun v _=>s.size+8 -(intOf v).toNat)
  case atStart=>exact⟨0,Nat.zero_le _,rfl,hrow,hbel,hsz⟩
  case round=>
   clear hrow hbel hsz hcp;obtain⟨k,hk,rfl,hrow,hbel,hsz⟩:=hrel;by_cases hlt:k<8
   ·have c0:=hrow.cell (s.size+k) (by simp;omega);have fz:=hrow.fz;have hput:=hrow.set (s.size+k) 77;rw[XgN s k hlt]at hput;have HP:=hide hput;have HB:=hide ((hbel.setCell (p:=⟨w.heap.size,s.size+k,none⟩) (Nat.le_refl _) (.int .u8 ((77:UInt8).toNat:Int))));have HZ:=hide ((size_setCell wr ⟨w.heap.size,s.size+k,none⟩ (.int .u8 ((77:UInt8).toNat:Int))).trans hsz);clear hput;go_wp2
    go_roundw
    case rel=>exact⟨k+1,hlt,by go_num,Xa HP,Xa HB,Xa HZ⟩
    case measure=>simp[intOf];omega
   ·have e8:k=8:=by omega
    subst e8;have HR:Hid (Yu wr w.heap.size (ZO s)):=by show Yu _ _ _;simpa[ZO]using hrow
    clear hrow;go_wp2
    go_ret
    exact⟨by simp,Xa HR,hbel,hsz⟩
theorem Jp (a:Option Addr)(n c:Nat)(w:World):(binOp .eql 28 (.slice a n c) (.slice none 0 0)).run Tryz.prog w=.ok (.bool a.isNone) w:=
 Lib.run_eql_slice_nil w 28 5 a n c 0 0 Tryz.underlying28
theorem XjY {w:World}{b off cap:Nat}{l:List UInt8}(h:Seg w b off l):(convert 28 9 (.slice (some ⟨b,off,none⟩) l.length cap)).run Tryz.prog w=.ok (.string ⟨l.toArray⟩) w:=
 run_convert_bytes_back w 28 9 5 ⟨b,off,none⟩ cap l Tryz.underlying28 Tryz.underlying5 Tryz.underlying9 (fun j hj=>by
  rw[Go.WideShapes.add_plain,h j hj];simp[List.getD,hj])
theorem Xmi (s:ByteArray)(k:Nat)(hk:s.size≤k)(hk8:k<s.size+8):(List.replicate k (1:UInt8)++(ZO s).drop k).getD k 0=77:=by
 have e:s.data.toList.length=s.size:=by simp
 simp only[List.getD];rw[List.getElem?_append_right (by simp),List.length_replicate,Nat.sub_self,List.getElem?_drop,Nat.add_zero,ZO,List.getElem?_append_right (by omega),e];rw[List.getElem?_replicate,if_pos (by omega)];rfl
theorem Xmk (s:ByteArray)(k:Nat)(hk8:k<s.size+8):(List.replicate k (1:UInt8)++(ZO s).drop k).set k 1=List.replicate (k+1) 1++(ZO s).drop (k+1):=by
 have hl:=Xcr s;rw[List.set_append_right _ _ (by simp),List.length_replicate,Nat.sub_self,List.drop_eq_getElem_cons (by omega),List.set_cons_zero];rw[List.replicate_succ',List.append_assoc];rfl
theorem Xmj (s:ByteArray)(w:World):
  Calls Tryz.prog 26 #[.slice none 0 0,.string s] w fun e w'=>e=.returned (.bool true)∧w'=w:=by
 have hq:=Jp none 0 0;go_enter Tryz.func26,Tryz.ntmps26
 go_wp2
 go_ret
 exact⟨rfl,rfl⟩
theorem Xkg (g:Nat)(s:ByteArray)(w:World)(hs:s.size≤1099511627776)(hr:Yu w g (ZO s)):
  Calls Tryz.prog 26 #[.slice (some ⟨g,0,none⟩) s.size (s.size+8),.string s] w fun e w'=>e=.returned (.bool true)∧Xb (· =g) w w'∧w'.heap.size=w.heap.size:=by
 have hq:=Jp (some ⟨g,0,none⟩) s.size (s.size+8)
 have hcv:(convert 28 9 (.slice (some ⟨g,0,none⟩) s.size (s.size+8))).run Tryz.prog w=.ok (.string s) w:=by
  have h0:Seg w g 0 s.data.toList:=by
   have:=hr.seg.take s.size
   have e:(ZO s).take s.size=s.data.toList:=by
    have e2:s.size=s.data.toList.length:=by simp
    rw[ZO,e2,List.take_left]
   rwa [e]at this
  have h1:=XjY (cap:=s.size+8) h0;have e2:s.data.toList.length=s.size:=by simp
  rw[e2]at h1;simpa using h1
 have HR:=hide hr;clear hr;go_enter Tryz.func26,Tryz.ntmps26
 go_wp2
 go_loopw [7,8] (fun o v wr=>∃(k:Nat),k≤s.size+8∧o=.bool true∧v=.int .i64 k∧Yu wr g (List.replicate k 1++(ZO s).drop k)∧Xb (· =g) w wr∧wr.heap.size=w.heap.size) (fun _ v _=>s.size+8 -(intOf v).toNat)
 case atStart=>exact⟨0,Nat.zero_le _,by simp,rfl,by simpa using Xa HR,Xb.refl _ _,rfl⟩
 case round=>
  clear HR hcv;obtain⟨k,hk,rfl,rfl,hrow,hkp,hsz⟩:=hrel;by_cases hlt:k<s.size+8
  ·have c0:=hrow.cell k (by simp[Xcr];omega);have fz:=hrow.fz;have hput:=hrow.set k 1;rw[Xmk s k hlt]at hput;have HP:=hide hput;have HB:=hide (hkp.setB k (.int .u8 ((1:UInt8).toNat:Int)));have HZ:=hide ((size_setCell wr ⟨g,k,none⟩ (.int .u8 ((1:UInt8).toNat:Int))).trans hsz);clear hput;by_cases hks:k<s.size
   ·have g1:(k:Int)<(s.size:Int):=by omega
    generalize (List.replicate k (1:UInt8)++(ZO s).drop k).getD k 0=x at c0;go_wp2
    go_roundw
    case rel=>exact⟨k+1,hlt,rfl,by go_num,Xa HP,Xa HB,Xa HZ⟩
    case measure=>simp[intOf];omega
   ·have g1:¬((k:Int)<(s.size:Int)):=by omega
    rw[Xmi s k (by omega) hlt]at c0;go_wp2
    go_roundw
    case rel=>exact⟨k+1,hlt,rfl,by go_num,Xa HP,Xa HB,Xa HZ⟩
    case measure=>simp[intOf];omega
  ·go_wp2
   go_ret
   exact⟨rfl,hkp,hsz⟩
def XG (mk:List Value)(k:Nat):List Value:=(List.replicate k mk).flatten
theorem QL (mk:List Value)(k:Nat):(XG mk k).length=k*mk.length:=by
 induction k with
 |zero=>simp[XG]
 |succ k ih=>
  have e:XG mk (k+1)=mk++XG mk k:=by simp[XG,List.replicate_succ]
  rw[e,List.length_append,ih,Nat.succ_mul];omega
theorem Xa3 (mk:List Value)(a b:Nat):XG mk (a+b)=XG mk a++XG mk b:=by
 unfold XG;rw[← List.flatten_append,List.replicate_append_replicate]
theorem Xlv (mk:List Value)(a b:Nat)(h:a≤b):(XG mk b).take (a*mk.length)=XG mk a:=by
 have e:b=a+(b-a):=by omega
 rw[e,Xa3,←QL mk a,List.take_left]
theorem Xnf {mk:List Value}(h:∀u∈mk,u.oneCell'=true)(k:Nat):∀u∈XG mk k,u.oneCell'=true:=by
 intro u hu;simp only[XG,List.mem_flatten,List.mem_replicate]at hu;obtain⟨l,⟨_,rfl⟩,hl⟩:=hu;exact h u hl
def YB (w:World)(e:TypeId)(mk:List Value)(v:Value)(k:Nat):Prop:=w.ownsRow 0 e mk.length v k (XG mk k)
theorem YB.grown {w w':World}{e:TypeId}{mk:List Value}{v:Value}{k:Nat}{row:Option Nat}(h:YB w e mk v k)(hg:w.grownBy w' row)(hne:v.ownBlock=none∨v.ownBlock≠row):YB w' e mk v k:=World.ownsRow.kept h hg hne
theorem YB.pre {w:World}{e:TypeId}{mk:List Value}{g k K cap:Nat}(h:YB w e mk (.slice (some ⟨g,0,none⟩) K cap) K)(hk:k≤K):YB w e mk (.slice (some ⟨g,0,none⟩) k cap) k:=by
 rcases h.2 with⟨hv,_⟩|⟨g',cap',cur,hv,hb,hg,hc,hm,hs,ht⟩
 ·simp at hv
 ·simp only[Value.slice.injEq,Option.some.injEq,Addr.mk.injEq]at hv;obtain⟨⟨rfl,_⟩,_,rfl⟩:=hv;refine⟨QL mk k,.inr ⟨g,cap,cur,rfl,Nat.zero_le _,hg,by omega,hm,hs,?_⟩⟩;rw[← Xlv mk k K hk,←ht,List.take_take];congr 1
  exact(Nat.min_eq_left (Nat.mul_le_mul_right _ hk)).symm
theorem XW {P:Program}(w:World){ops:Array Oper}{rest:List Oper}{o:Oper}{a:Act}{Q:Exit→Act→World→Prop}
  (hg:o.guard=none) (s x:Operand) (t:TypeId) (hop:o.op=Op.call {callee:=Callee.builtin Builtin.append,args:= #[s,x],argTypes:= #[t,t]})
  (e:TypeId) (i:TypeInfo) (z:Value) (bytes:Nat) (mk:List Value) (h1:P.underlying t=some (.slice e)) (h2:P.info? e=some i) (h3:i.zero=some z) (h4:i.size=mk.length) (h5:i.bytes=bytes) (h6:z.cells.size=mk.length) (h7:0<mk.length)
  (ho:∀u∈mk,u.oneCell'=true)
  (v:Value) (n:Nat) (hs:a.eval s=v) (hown:YB w e mk v n) (ad:Addr) (m c:Nat) (hm0:0<m) (hx:a.eval x=.slice (some ad) m c)
  (hc:∀j u,(XG mk m)[j]?=some u→w.cell? (ad.add j)=some u) (b1:n+m≤maxLen) (b2:(n+m)*bytes≤140737488355328)
  (hK:∀v' w',YB w' e mk v' (n+m)→(∀ u k,YB w e mk u k→(u.ownBlock=v.ownBlock→k≤n+m)→YB w' e mk u k)→w.grownBy w' v.ownBlock→
   (v'.ownBlock=v.ownBlock∨∃q,v'.ownBlock=some q∧w.heap.size≤q)→wpList P ops Q rest (a.put o.dst v') w'):
  wpList P ops Q (o::rest) a w:=by
 have hnl:(XG mk m).length=m*mk.length:=QL mk m;have hno:=Xnf ho m
 have hgrow:∀ao cap,v=.slice ao n cap→(ao=none→n=0∧cap=0)→cap<n+m→wpList P ops Q (o::rest) a w:=by
  intro ao cap hv hnone hfull;refine wpList_append_grows w hg s x t hop e i z mk.length bytes h1 h2 h3 h4 h5 h6 h7 ao n cap (XG mk n) (hs.trans hv) hnone (QL mk n) ?_ ad m c (XG mk m) hx hnl hc hno hfull b1 b2 ?_
  ·intro b hb j u hj;rw[hv,hb]at hown;rcases hown.2 with⟨hv',_⟩|⟨g,cp,cur,hv',_⟩
   ·simp at hv'
   ·simp only[Value.slice.injEq,Option.some.injEq]at hv';rw[hv'.1];exact World.ownsRow.cells hown (g:=g) (by rw[hv'.1];rfl) j u hj
  ·intro v' w' hw' hgr;rw[← Xa3]at hw';refine hK v' w' (Xw hw' (Nat.zero_le _)) (fun u k hu _=>hu.grown hgr ?_) ⟨hgr.os,hgr.tape,hgr.output,hgr.size,fun k hk _=>hgr.block k hk (by simp)⟩ ?_
   ·cases hub:u.ownBlock with
    |none=>exact .inl rfl
    |some q=>exact .inr (by simp)
   ·rcases hw'.2 with⟨_,h0⟩|⟨g,cp,cur,hv',hb,_⟩
    ·omega
    ·exact .inr ⟨g,by rw[hv'];rfl,hb⟩
 rcases hown.2 with⟨hv,hn⟩|⟨g,cap,cur,hv,_,hgc,hcap,hmx,hsz,ht⟩
 ·exact hgrow none 0 (by rw[hv,hn]) (fun _=>⟨hn,rfl⟩) (by omega)
 ·by_cases hroom:n+m≤cap
  ·rw[hv]at hown;refine wpList_append_fits w hg s x t hop 0 e i mk.length h1 h2 h4 g n cap (XG mk n) (hs.trans hv) hown ad m c (XG mk m) hx hnl hc hno hroom ?_;intro w' hw' hgr;rw[← Xa3]at hw';have hvb:v.ownBlock=some g:=by rw[hv];rfl
   refine hK _ w' hw' (fun u k hu hle=> ?_) (by rw[hvb];exact hgr) (.inl (by rw[hvb];rfl));by_cases hub:u.ownBlock=some g
   ·have hk:=hle (by rw[hub,hvb]);rcases hu.2 with⟨huv,_⟩|⟨g2,cap2,cur2,huv,_,hg2,hc2,hm2,hs2,ht2⟩
    ·rw[huv]at hub;simp[Value.ownBlock]at hub
    ·have eg:g2=g:=by rw[huv]at hub;simpa[Value.ownBlock]using hub
     subst eg;rw[hgc]at hg2;simp only[Option.some.injEq,Obj.cells.injEq]at hg2
     have ec:cap2=cap:=by
      have:cap2*mk.length=cap*mk.length:=by rw[← hs2,←hsz,hg2.1]
      exact Nat.eq_of_mul_eq_mul_right h7 this
     rw[huv,ec];exact YB.pre hw' hk
   ·exact hu.grown hgr (.inr hub)
  ·exact hgrow (some ⟨g,0,none⟩) cap hv (fun h=>by simp at h) (by omega)
def WAt (w:World)(wb:Nat)(cs:Array Value):Prop:=w.heap[wb]?=some (.cells cs 45 (0,0))
section
variable {w:World}{wb:Nat}{cs:Array Value}
theorem WAt.lt (h:WAt w wb cs):wb<w.heap.size:=(Array.getElem?_eq_some_iff.1 h).1
theorem WAt.cell (h:WAt w wb cs)(j:Nat)(v:Value)(hj:cs[j]?=some v):w.cell? ⟨wb,j,none⟩=some v:=by
 rw[Lib.cell_of_heap h];exact hj
theorem WAt.fz (h:WAt w wb cs)(i:Nat):w.frozen? ⟨wb,i,none⟩=false:=Lib.frozen_of_heap h i
theorem WAt.set (h:WAt w wb cs)(j:Nat)(v:Value):WAt (w.setCell ⟨wb,j,none⟩ v) wb (cs.setIfInBounds j v):=by
 unfold WAt at*;simp[World.setCell,Array.getElem?_modify,h]
theorem WAt.keeps {X:Nat→Prop}{w':World}(h:WAt w wb cs)(k:Xb X w w')(hx:¬X wb):WAt w' wb cs:=by
 unfold WAt;rw[k.block wb h.lt hx];exact h
end
structure YV (w:World)(X:Nat→Prop)(wb:Nat)(wr:World)(cs:Array Value)(E S:TypeId)(bs:Value)(ents:List Value)(mk:List Value)(us:List (Value×Nat)):Prop where
 head:WAt wr wb cs
 row:wr.ownsRow 0 S 1 bs ents.length ents
 marks:∀u∈us,YB wr E mk u.1 u.2
 keeps:Xb X w wr
 mineB:Mine X w.heap.size bs
 mineU:∀u∈us,Mine X w.heap.size u.1
section
variable {w wr:World}{X:Nat→Prop}{wb:Nat}{cs:Array Value}{E S:TypeId}{bs:Value}{ents mk:List Value}{us:List (Value×Nat)}
theorem YV.later {wr':World}(h:YV w X wb wr cs E S bs ents mk us)(k:Xb (fun _=>False) wr wr'):YV w X wb wr' cs E S bs ents mk us:=
 ⟨h.head.keeps k id,XQ h.row k (fun _ hi=>absurd hi id),fun u hu=>XQ (h.marks u hu) k (fun _ hi=>absurd hi id),h.keeps.trans (k.mono (fun _ hi=>absurd hi id)),h.mineB,h.mineU⟩
theorem Xb.mine {X:Nat→Prop}{w W w2:World}{v:Value}(h:Xb X w W)(hm:Mine X w.heap.size v)(hg:W.grownBy w2 v.ownBlock):Xb X w w2:=by
 have hk:=Xb.grown hg;exact⟨hk.os.trans h.os,hk.tape.trans h.tape,hk.output.trans h.output,Nat.le_trans h.size hk.size,fun i hi hX=>(hk.block i (Nat.lt_of_lt_of_le hi h.size) (fun hv=>by rcases hm i hv.symm with q|q;exact hX q;omega)).trans (h.block i hi hX)⟩
theorem YV.mark {w2:World}{o:Obj}{v v':Value}{n m:Nat}(h:YV w X wb wr cs E S bs ents mk us)(hEW:E≠45)(hES:E≠S)(hv:YB wr E mk v n)(hmv:Mine X w.heap.size v)(hle:∀u∈us,u.2≤n+m)
  (hv':YB w2 E mk v' (n+m)) (hk:∀u k,YB (wr.alloc o) E mk u k→(u.ownBlock=v.ownBlock→k≤n+m)→YB w2 E mk u k) (hg:(wr.alloc o).grownBy w2 v.ownBlock)
  (hb:v'.ownBlock=v.ownBlock∨∃q,v'.ownBlock=some q∧(wr.alloc o).heap.size≤q):YV w X wb w2 cs E S bs ents mk (us++[(v',n+m)]):=by
 have hA:=h.later ((Xb.refl _ wr).alloc o);have hvA:YB (wr.alloc o) E mk v n:=World.ownsRow.alloc hv o;have hG:=Xb.grown hg
 have hrow:∀i,some i=v.ownBlock→∀c fz (e:TypeId),e≠E→(wr.alloc o).heap[i]?≠some (.cells c e fz):=by
  intro i hi c fz e he hc;obtain⟨c2,h2⟩:=Xd hvA hi.symm;rw[h2]at hc;simp at hc;exact he hc.2.1.symm
 have hsz:w.heap.size≤(wr.alloc o).heap.size:=hA.keeps.size;refine⟨hA.head.keeps hG (fun hi=>hrow wb hi _ _ _ (fun e=>hEW e.symm) hA.head),XQ hA.row hG (fun i hi c fz=>hrow i hi c fz _ (fun e=>hES e.symm)),?_,hA.keeps.mine hmv hg,h.mineB,?_⟩
 ·intro u hu;rcases List.mem_append.1 hu with hu|hu
  ·exact hk u.1 u.2 (hA.marks u hu) (fun _=>hle u hu)
  ·simp at hu;subst hu;exact hv'
 ·intro u hu;rcases List.mem_append.1 hu with hu|hu
  ·exact h.mineU u hu
  ·simp at hu;subst hu;intro i hi;rcases hb with e|⟨q,e,hq⟩
   ·exact hmv i (e▸hi)
   ·exact .inr ((Option.some.inj (e.symm.trans hi))▸Nat.le_trans hsz hq)
theorem YV.pushHead {w2:World}{o:Obj}(h:YV w X wb wr cs E S bs ents mk us)(hSW:S≠45)(hg:(wr.alloc o).grownBy w2 bs.ownBlock):WAt w2 wb cs:=by
 have hA:=h.later ((Xb.refl _ wr).alloc o);refine hA.head.keeps (Xb.grown hg) (fun hi=> ?_);obtain⟨c2,h2⟩:=Xd hA.row hi.symm;have h3:=hA.head;unfold WAt at h3;rw[h2]at h3;simp at h3;exact hSW h3.2
theorem YV.push {w2:World}{o:Obj}{x bs':Value}{N:Nat}(h:YV w X wb wr cs E S bs ents mk us)(hX:X wb)(hSW:S≠45)(hEW:E≠45)(hES:E≠S)
  (hown:w2.ownsRow 0 S 1 bs' (ents.length+1) (ents++[x])) (hg:(wr.alloc o).grownBy w2 bs.ownBlock) (hb:bs'.ownBlock=bs.ownBlock∨bs'.ownBlock=some N) (hN:w.heap.size≤N) (j:Nat):
  YV w X wb (w2.setCell ⟨wb,j,none⟩ bs') (cs.setIfInBounds j bs') E S bs' (ents++[x]) mk us:=by
 have hA:=h.later ((Xb.refl _ wr).alloc o);have hG:=Xb.grown hg;have hhd:=h.pushHead hSW hg
 have hrow:∀i,some i=bs.ownBlock→∀c fz (e:TypeId),e≠S→(wr.alloc o).heap[i]?≠some (.cells c e fz):=by
  intro i hi c fz e he hc;obtain⟨c2,h2⟩:=Xd hA.row hi.symm;rw[h2]at hc;simp at hc;exact he hc.2.1.symm
 have hne:∀i,i=wb→∀c fz (e:TypeId),e≠45→w2.heap[i]?≠some (.cells c e fz):=by
  intro i hi c fz e he hc;subst hi;unfold WAt at hhd;rw[hhd]at hc;simp at hc;exact he hc.2.1.symm
 have k:Xb (· =wb) w2 (w2.setCell ⟨wb,j,none⟩ bs'):=(Xb.refl _ w2).setB _ _;refine⟨hhd.set j bs',?_,?_,(hA.keeps.mine h.mineB hg).trans (k.mono (fun i hi=>hi▸hX)),?_,h.mineU⟩
 ·rw[List.length_append];exact XQ hown k (fun i hi c fz=>hne i hi c fz _ hSW)
 ·intro u hu;exact XQ (XQ (hA.marks u hu) hG (fun i hi c fz=>hrow i hi c fz _ hES)) k (fun i hi c fz=>hne i hi c fz _ hEW)
 ·intro i hi;rcases hb with e|e
  ·exact h.mineB i (e▸hi)
  ·exact .inr ((Option.some.inj (e.symm.trans hi))▸hN)
end
theorem Xcn:(Tryz.prog.info? 28).map (fun i=>(i.zero,i.size,i.bytes))=some (some (.slice none 0 0),1,24):=by kernel_rfl
theorem Xf {w:World}{base:Nat}{e:TypeId}{size:Nat}{v:Value}{n:Nat}{xs:List Value}(h:w.ownsRow base e size v n xs):∃p cap,v=.slice p n cap∧(0<n→∃g,p=some ⟨g,0,none⟩):=by
 rcases h.2 with⟨hv,hn⟩|⟨g,cap,cur,hv,_⟩
 ·exact ⟨none,0,by rw[hv,hn],fun h=>by omega⟩
 ·exact ⟨_,cap,hv,fun _=>⟨g,rfl⟩⟩
theorem Xdp (a:Value)(xs:List Value)(k:Nat)(hk:k<xs.length):(XG [a] k++xs.drop k).set k a=XG [a] (k+1)++xs.drop (k+1):=by
 have hl:(XG [a] k).length=k:=by rw[QL];simp
 rw[List.set_append_right _ _ (by omega),hl,Nat.sub_self,List.drop_eq_getElem_cons hk,List.set_cons_zero,Xa3];simp[XG]
theorem Xlg {w wr:World}{X:Nat→Prop}{wb g n cp k:Nat}{cs:Array Value}{S:TypeId}{bs:Value}{ents ys:List Value}{u:Value}(hS:S≠5)
  (hv:wr.ownsRow 0 5 1 (.slice (some ⟨g,0,none⟩) n cp) n ys) (hW:WAt wr wb cs) (hrow:wr.ownsRow 0 S 1 bs ents.length ents) (hkp:Xb X w wr) (hm:Mine X w.heap.size (.slice (some ⟨g,0,none⟩) n cp)):
  (wr.setCell ⟨g,k,none⟩ u).ownsRow 0 5 1 (.slice (some ⟨g,0,none⟩) n cp) n (ys.set k u)∧WAt (wr.setCell ⟨g,k,none⟩ u) wb cs∧(wr.setCell ⟨g,k,none⟩ u).ownsRow 0 S 1 bs ents.length ents∧Xb X w (wr.setCell ⟨g,k,none⟩ u):=by
 have hst:=hv.stored k u;obtain⟨c,hg⟩:=Xd hv (k:=g) rfl;have hK:Xb (· =g) wr (wr.setCell ⟨g,k,none⟩ u):=(Xb.refl _ wr).setB _ _;refine⟨hst.1,hW.keeps hK (fun e=> ?_),XQ hrow hK (fun i hi c2 fz hc=> ?_),hkp.mine hm hst.2⟩
 ·have h3:=hW;unfold WAt at h3;rw[e,hg]at h3;simp at h3
 ·subst hi;rw[hg]at hc;simp at hc;exact hS hc.2.1.symm
theorem Xe8 (wb:Nat)(X:Nat→Prop)(hX:X wb)(hs ss bs fs ls is v:Value)(ents xs:List Value)(n:Nat)(w:World)
  (hW:WAt w wb #[hs,ss,bs,fs,ls,is]) (hrow:w.ownsRow 0 28 1 bs ents.length ents) (hv:w.ownsRow 0 5 1 v n xs) (hmb:Mine X w.heap.size bs) (hmv:Mine X w.heap.size v)
  (hN:ents.length≤4000000000000) (hn:n≤1099511627776):
  Calls Tryz.prog 34 #[.pointer (some ⟨wb,2,none⟩),v] w fun e w'=>e=.returned (.tuple #[])∧∃bs' v1 v2 v3,
   YV w X wb w' #[hs,ss,bs',fs,ls,is] 5 28 bs' (ents++[v,v1,v2,v3]) [.int .u8 (Ja ents.length:Nat)] [(v,n),(v1,n+1),(v2,n+2),(v3,n+3)]:=by
 obtain⟨i0,hi,hz0,hz1,hz2⟩:=info_parts infoByte;obtain⟨i1,hi1,hy0,hy1,hy2⟩:=info_parts Xcn;obtain⟨bp,bc,rfl,_⟩:=Xf hrow;obtain⟨p,cp,rfl,hpg⟩:=Xf hv;have c2:=hW.cell 2 _ rfl;have hxl:xs.length=n:=by have:=hv.1;omega
 have HMK:=hide (Xdi ents.length w (by unfold maxLen;omega));have HW:=hide hW;have HR:=hide hrow;have HV:=hide hv;have HMB:=hide hmb;have HMV:=hide hmv;clear hW hrow hv hmb hmv;generalize hmk:Ja ents.length=mk at HMK;go_enter Tryz.func34,Tryz.ntmps34
 go_wp2_with fail
 refine(Xa HMK).mono ?_;rintro e W1 ⟨rfl,hW1⟩;subst hW1;clear HMK;go_wp2
 go_loopw [5] (fun i wr=>∃k:Nat,k≤n∧i=.int .i64 k∧wr.ownsRow 0 5 1 (.slice p n cp) n (XG [.int .u8 (mk:Nat)] k++xs.drop k)∧WAt wr wb #[hs,ss,.slice bp ents.length bc,fs,ls,is]∧wr.ownsRow 0 28 1 (.slice bp ents.length bc) ents.length ents∧Xb X W1 wr) (fun i _=>n -(intOf i).toNat)
 case atStart=>exact⟨0,Nat.zero_le _,rfl,by simpa[XG]using Xa HV,Xa HW,Xa HR,Xb.refl _ _⟩
 case round=>
  clear HV HW HR c2;obtain⟨k,hk,rfl,hv,hW,hrow,hkp⟩:=hrel;by_cases hlt:k<n
  ·obtain ⟨g,rfl⟩:=hpg (by omega);have hlen:(XG [Value.int .u8 (mk:Nat)] k++xs.drop k).length=n:=by have:=hv.1;omega
   obtain⟨x0,hx0⟩:∃x0,(XG [Value.int .u8 (mk:Nat)] k++xs.drop k)[k]?=some x0:=⟨_,List.getElem?_eq_getElem (by omega)⟩;have c0:=(hv.cellAt k (by omega)).trans hx0;have fz:=hv.frozenAt;have hst:=Xlg (k:=k) (u:=.int .u8 (mk:Nat)) (by decide) hv hW hrow hkp (Xa HMV);rw[Xdp _ _ _ (by omega)]at hst;have HS:=hide hst;clear hst hx0 hlen;go_wp2
   go_roundw
   case rel=>
    obtain⟨q1,q2,q3,q4⟩:=Xa HS;exact⟨k+1,hlt,by go_num,q1,q2,q3,q4⟩
   case measure=>simp[intOf];omega
  ·have hkn:k=n:=by omega
   subst hkn;have hd:xs.drop k=[]:=List.drop_eq_nil_of_le (by omega);rw[hd,List.append_nil]at hv;have hmk1:YB wr 5 [.int .u8 (mk:Nat)] (.slice p k cp) k:=hv
   have HK:Hid (YV W1 X wb wr #[hs,ss,.slice bp ents.length bc,fs,ls,is] 5 28 (.slice bp ents.length bc) ents [.int .u8 (mk:Nat)] [(.slice p k cp,k)]):=
    ⟨hW,hrow,fun u hu=>by simp at hu;subst hu;exact hmk1,hkp,Xa HMB,fun u hu=>by simp at hu;subst hu;exact Xa HMV⟩
   clear hv hd hW hrow hkp;have ho:∀u∈ [Value.int .u8 (mk:Nat)],u.oneCell'=true:=by intro u hu;simp at hu;subst hu;rfl
   have HM0:=hide hmk1;have hsz0:=(Xa HK).keeps.size;clear hmk1;have HA1:=hide (World.ownsRow.alloc (Xa HM0) (.cells #[.int .u8 (mk:Nat)] 5));go_wp2_with (at_builtin;refine XW _ rfl _ _ 28 rfl 5 i0 _ 1 [.int .u8 (mk:Nat)] Tryz.underlying28 hi hz0 hz1 hz2 rfl Nat.one_pos ho _ _ rfl (Xa HA1) ⟨wr.heap.size,0,none⟩ 1 1 (by decide) rfl ?m1c1 ?m1c2 ?m1c3 ?_)
   case m1c1=>first|exact QR wr _ _|exact fun _ _ h=>h
   case m1c2=>unfold maxLen;omega
   case m1c3=>omega
   intro v1 w1 hm1 hk1 hg1 hb1;have HK1:=hide ((Xa HK).mark (by decide) (by decide) (Xa HM0) (Xa HMV) (by first|(simp;done)|(simp;omega)) hm1 hk1 hg1 (by rw[Xk];exact hb1));obtain⟨p1,cp1,rfl,_⟩:=Xf hm1;have HM1:=hide ((Xa HK1).marks (.slice p k cp,k) (by simp));have hsz1:=(Xa HK1).keeps.size;clear hm1 hk1 hg1 hb1 HA1 HM0 HK;have HA2:=hide (World.ownsRow.alloc (Xa HM1) (.cells #[.int .u8 (mk:Nat),.int .u8 (mk:Nat)] 5));go_wp2_with (at_builtin;refine XW _ rfl _ _ 28 rfl 5 i0 _ 1 [.int .u8 (mk:Nat)] Tryz.underlying28 hi hz0 hz1 hz2 rfl Nat.one_pos ho _ _ rfl (Xa HA2) ⟨w1.heap.size,0,none⟩ 2 2 (by decide) rfl ?m2c1 ?m2c2 ?m2c3 ?_)
   case m2c1=>first|exact XjB w1 _ _ _|exact fun _ _ h=>h
   case m2c2=>unfold maxLen;omega
   case m2c3=>omega
   intro v2 w2 hm2 hk2 hg2 hb2;have HK2:=hide ((Xa HK1).mark (by decide) (by decide) (Xa HM1) (Xa HMV) (by first|(simp;done)|(simp;omega)) hm2 hk2 hg2 (by rw[Xk];exact hb2));obtain⟨p2,cp2,rfl,_⟩:=Xf hm2;have HM2:=hide ((Xa HK2).marks (.slice p k cp,k) (by simp));have hsz2:=(Xa HK2).keeps.size;clear hm2 hk2 hg2 hb2 HA2 HM1 HK1;have HA3:=hide (World.ownsRow.alloc (Xa HM2) (.cells #[.int .u8 (mk:Nat),.int .u8 (mk:Nat),.int .u8 (mk:Nat)] 5));go_wp2_with (at_builtin;refine XW _ rfl _ _ 28 rfl 5 i0 _ 1 [.int .u8 (mk:Nat)] Tryz.underlying28 hi hz0 hz1 hz2 rfl Nat.one_pos ho _ _ rfl (Xa HA3) ⟨w2.heap.size,0,none⟩ 3 3 (by decide) rfl ?m3c1 ?m3c2 ?m3c3 ?_)
   case m3c1=>first|exact Xpg w2 _ _ _ _|exact fun _ _ h=>h
   case m3c2=>unfold maxLen;omega
   case m3c3=>omega
   intro v3 w3 hm3 hk3 hg3 hb3;have HK3:=hide ((Xa HK2).mark (by decide) (by decide) (Xa HM2) (Xa HMV) (by first|(simp;done)|(simp;omega)) hm3 hk3 hg3 (by rw[Xk];exact hb3));obtain⟨p3,cp3,rfl,_⟩:=Xf hm3;have HM3:=hide ((Xa HK3).marks (.slice p k cp,k) (by simp));have hsz3:=(Xa HK3).keeps.size;clear hm3 hk3 hg3 hb3 HA3 HM2 HK2;have d0:=(Xa HK3).head.cell 2 _ rfl;have HB0:=hide (World.ownsRow.alloc (Xa HK3).row (.cells #[.slice p k cp] 28));go_wp2_with (at_builtin;refine wpList_append_own_at _ rfl _ _ 38 rfl 0 28 i1 _ 1 24 Tryz.underlying38 hi1 hy0 hy1 hy2 rfl (by decide) _ _ _ rfl (Xa HB0) ⟨w3.heap.size,0,none⟩ 1 1 [.slice p k cp] rfl rfl ?p0c1 ?p0c2 ?p0c3 ?p0c4 ?p0c5 ?_)
   case p0c2=>first|rfl|(intro u hu;simp at hu;subst hu;rfl)
   case p0c3=>unfold maxLen;first|omega|(simp;omega)
   case p0c4=>first|omega|(simp;omega)
   intro b0 y0 hown0 hg0 _ hb0;have hd0:=(Xa HK3).pushHead (by decide) hg0;have e0:=hd0.cell 2 _ rfl;have f0:=hd0.fz;have HP0:Hid (YV W1 X wb (y0.setCell ⟨wb,2,none⟩ b0) #[hs,ss,b0,fs,ls,is] 5 28 b0 (ents++[.slice p k cp]) [.int .u8 (mk:Nat)] _):=(Xa HK3).push hX (by decide) (by decide) (by decide) (by simpa using hown0) hg0 hb0 (by omega) 2;obtain⟨bp0,bc0,rfl,_⟩:=Xf hown0;have hyz0:W1.heap.size≤y0.heap.size:=by have:=(Xa HP0).keeps.size;rwa [size_setCell]at this
   clear hown0 hg0 hb0 hd0 d0 HB0 HK3;have d1:=(Xa HP0).head.cell 2 _ rfl;have HB1:=hide (World.ownsRow.alloc (Xa HP0).row (.cells #[.slice p1 (k+1) cp1] 28));go_wp2_with (at_builtin;refine wpList_append_own_at _ rfl _ _ 38 rfl 0 28 i1 _ 1 24 Tryz.underlying38 hi1 hy0 hy1 hy2 rfl (by decide) _ _ _ rfl (Xa HB1) ⟨y0.heap.size,0,none⟩ 1 1 [.slice p1 (k+1) cp1] rfl rfl ?p1c1 ?p1c2 ?p1c3 ?p1c4 ?p1c5 ?_)
   case p1c1=>have q:=QR (y0.setCell ⟨wb,2,none⟩ (.slice bp0 (ents.length+1) bc0)) (.slice p1 (k+1) cp1) 28;rw[size_setCell]at q;exact q
   case p1c5=>exact Nat.zero_le _
   case p1c2=>first|rfl|(intro u hu;simp at hu;subst hu;rfl)
   case p1c3=>unfold maxLen;first|omega|(simp;omega)
   case p1c4=>first|omega|(simp;omega)
   intro b1 y1 hown1 hg1 _ hb1;have hd1:=(Xa HP0).pushHead (by decide) hg1;have e1:=hd1.cell 2 _ rfl;have f1:=hd1.fz;have HP1:Hid (YV W1 X wb (y1.setCell ⟨wb,2,none⟩ b1) #[hs,ss,b1,fs,ls,is] 5 28 b1 (ents++[.slice p k cp]++[.slice p1 (k+1) cp1]) [.int .u8 (mk:Nat)] _):=(Xa HP0).push hX (by decide) (by decide) (by decide) (by simpa using hown1) hg1 hb1 (by omega) 2;obtain⟨bp1,bc1,rfl,_⟩:=Xf hown1;have hyz1:W1.heap.size≤y1.heap.size:=by have:=(Xa HP1).keeps.size;rwa [size_setCell]at this
   clear hown1 hg1 hb1 hd1 d1 HB1 HP0;have d2:=(Xa HP1).head.cell 2 _ rfl;have HB2:=hide (World.ownsRow.alloc (Xa HP1).row (.cells #[.slice p2 (k+2) cp2] 28));go_wp2_with (at_builtin;refine wpList_append_own_at _ rfl _ _ 38 rfl 0 28 i1 _ 1 24 Tryz.underlying38 hi1 hy0 hy1 hy2 rfl (by decide) _ _ _ rfl (Xa HB2) ⟨y1.heap.size,0,none⟩ 1 1 [.slice p2 (k+2) cp2] rfl rfl ?p2c1 ?p2c2 ?p2c3 ?p2c4 ?p2c5 ?_)
   case p2c1=>have q:=QR (y1.setCell ⟨wb,2,none⟩ (.slice bp1 (ents.length+2) bc1)) (.slice p2 (k+2) cp2) 28;rw[size_setCell]at q;exact q
   case p2c5=>exact Nat.zero_le _
   case p2c2=>first|rfl|(intro u hu;simp at hu;subst hu;rfl)
   case p2c3=>unfold maxLen;first|omega|(simp;omega)
   case p2c4=>first|omega|(simp;omega)
   intro b2 y2 hown2 hg2 _ hb2;have hd2:=(Xa HP1).pushHead (by decide) hg2;have e2:=hd2.cell 2 _ rfl;have f2:=hd2.fz;have HP2:Hid (YV W1 X wb (y2.setCell ⟨wb,2,none⟩ b2) #[hs,ss,b2,fs,ls,is] 5 28 b2 (ents++[.slice p k cp]++[.slice p1 (k+1) cp1]++[.slice p2 (k+2) cp2]) [.int .u8 (mk:Nat)] _):=(Xa HP1).push hX (by decide) (by decide) (by decide) (by simpa using hown2) hg2 hb2 (by omega) 2;obtain⟨bp2,bc2,rfl,_⟩:=Xf hown2;have hyz2:W1.heap.size≤y2.heap.size:=by have:=(Xa HP2).keeps.size;rwa [size_setCell]at this
   clear hown2 hg2 hb2 hd2 d2 HB2 HP1;have d3:=(Xa HP2).head.cell 2 _ rfl;have HB3:=hide (World.ownsRow.alloc (Xa HP2).row (.cells #[.slice p3 (k+3) cp3] 28));go_wp2_with (at_builtin;refine wpList_append_own_at _ rfl _ _ 38 rfl 0 28 i1 _ 1 24 Tryz.underlying38 hi1 hy0 hy1 hy2 rfl (by decide) _ _ _ rfl (Xa HB3) ⟨y2.heap.size,0,none⟩ 1 1 [.slice p3 (k+3) cp3] rfl rfl ?p3c1 ?p3c2 ?p3c3 ?p3c4 ?p3c5 ?_)
   case p3c1=>have q:=QR (y2.setCell ⟨wb,2,none⟩ (.slice bp2 (ents.length+3) bc2)) (.slice p3 (k+3) cp3) 28;rw[size_setCell]at q;exact q
   case p3c5=>exact Nat.zero_le _
   case p3c2=>first|rfl|(intro u hu;simp at hu;subst hu;rfl)
   case p3c3=>unfold maxLen;first|omega|(simp;omega)
   case p3c4=>first|omega|(simp;omega)
   intro b3 y3 hown3 hg3 _ hb3;have hd3:=(Xa HP2).pushHead (by decide) hg3;have e3:=hd3.cell 2 _ rfl;have f3:=hd3.fz;have HP3:Hid (YV W1 X wb (y3.setCell ⟨wb,2,none⟩ b3) #[hs,ss,b3,fs,ls,is] 5 28 b3 (ents++[.slice p k cp]++[.slice p1 (k+1) cp1]++[.slice p2 (k+2) cp2]++[.slice p3 (k+3) cp3]) [.int .u8 (mk:Nat)] _):=(Xa HP2).push hX (by decide) (by decide) (by decide) (by simpa using hown3) hg3 hb3 (by omega) 2;obtain⟨bp3,bc3,rfl,_⟩:=Xf hown3;have hyz3:W1.heap.size≤y3.heap.size:=by have:=(Xa HP3).keeps.size;rwa [size_setCell]at this
   clear hown3 hg3 hb3 hd3 d3 HB3 HP2;go_wp2
   have q:=Xa HP3;simp only[List.append_assoc,List.cons_append,List.nil_append]at q;go_end0
   exact⟨rfl,_,_,_,_,q⟩
theorem Seg.nil (w:World)(b off:Nat):Seg w b off []:=fun i hi=>by simp at hi
theorem XmJ (n:Nat)(h0:0<n)(hn:n≤1048576)(w:World):
  Calls Tryz.prog 114 #[.slice none 0 0,.int .i64 n] w fun e w'=>∃v,e=.returned v∧w'.ownsRow w.heap.size 5 1 v 0 []∧(∃ g c,v=.slice (some ⟨g,0,none⟩) 0 c∧w.heap.size≤g)∧Below w.heap.size w w':=by
 obtain⟨i0,hi,hz0,hz1,hz2⟩:=info_parts infoByte;have hold:(Builtin.firstCells i0.size 0 (.slice none 0 0)).run Tryz.prog w.drew=.ok ([]:List Value).toArray w.drew:=run_firstCells_none w.drew i0.size 0 0 0
 have hrz:∀ty,(Builtin.append_ #[28,3] ty #[.slice none 0 0,.int .i64 n]).run Tryz.prog w=
   .ok (.slice (some ⟨w.heap.size,0,none⟩) n (grownCap w n 0 5)) (w.drew.alloc (.cells (([]:List Value).toArray++Builtin.zeroCells (Value.int .u8 0).cells n++Builtin.zeroCells (Value.int .u8 0).cells (grownCap w n 0 5-n)) 5)):=fun ty=>by
  have h:=Lib.run_append_grow_zeros w 28 3 ty 5 i0 (.int .u8 0) .i64 .i64 Tryz.underlying28 Tryz.underlying3 hi hz0 none 0 0 [] hold n h0 (by omega) (by omega) (by omega) (by rw[hz2];omega)
   (by rw[Nat.zero_add];exact growslice_fits (by omega) (by rw[hz2];omega))
  rw[Nat.zero_add]at h;exact h
 have hGn:n≤grownCap w n 0 5:=grownCap_ge w _ _ _;have hG63:=grownCap_le_maxLen w n 0 5 (by unfold maxLen;omega);generalize grownCap w n 0 5=G at hrz hGn hG63;have hin:(0:Int)<(n:Int):=by omega
 have hng:¬((n:Int)<0):=by omega
 clear hold;go_enter Tryz.func114,Tryz.ntmps114
 go_wp2_with (at_builtin;refine Lib.wpList_append_run _ rfl _ _ _ _ rfl _ _ rfl rfl _ _ (hrz _) ?_)
 go_wp2
 go_ret
 refine⟨_,rfl,⟨rfl,.inr ⟨w.heap.size,G,_,rfl,Nat.le_refl _,Array.getElem?_push_size,Nat.zero_le _,hG63,?_,?_⟩⟩,⟨w.heap.size,⟨G,rfl⟩,Nat.le_refl _⟩,?_⟩
 ·simp[size_zeroCells];omega
 ·simp
 ·exact (below_drewN (Below.refl _ w) 1).alloc (Nat.le_refl _) _
def XU (w:World)(p:Option Addr)(l:List UInt8):Prop:=(p=none∧l=[])∨∃b off,p=some ⟨b,off,none⟩∧b<w.heap.size∧Seg w b off l
theorem XU.below {w w':World}{p:Option Addr}{l:List UInt8}(h:XU w p l){B:Nat}(hb:Below B w w')(hB:w.heap.size≤B):XU w' p l:=by
 rcases h with h|⟨b,off,h1,h2,h3⟩
 ·exact .inl h
 ·exact .inr ⟨b,off,h1,Nat.lt_of_lt_of_le h2 hb.size,h3.below hb (by omega)⟩
def PartsAt (w:World)(fb:Nat)(vs:List (Option Addr×Nat×List UInt8)):Prop:=
 ∀i (hi:i<vs.length),w.cell? ⟨fb,i,none⟩=some (.slice vs[i].1 vs[i].2.2.length vs[i].2.1)∧XU w vs[i].1 vs[i].2.2
theorem PartsAt.below {w w':World}{fb:Nat}{vs:List (Option Addr×Nat×List UInt8)}(h:PartsAt w fb vs){B:Nat}(hb:Below B w w')(hB:w.heap.size≤B)(hf:fb<B):PartsAt w' fb vs:=by
 intro i hi;obtain⟨h1,h2⟩:=h i hi;exact⟨by rw[hb.cell (p:=⟨fb,i,none⟩) hf];exact h1,h2.below hb hB⟩
def Qc (vs:List (Option Addr×Nat×List UInt8)):List UInt8:=(vs.map (·.2.2)).flatten
theorem XeU (vs:List (Option Addr×Nat×List UInt8))(k:Nat)(hk:k<vs.length):Qc (vs.take (k+1))=Qc (vs.take k)++vs[k].2.2:=by
 unfold Qc;rw[List.take_succ_eq_append_getElem hk,List.map_append,List.flatten_append];simp only[List.map_cons,List.map_nil,List.flatten_cons,List.flatten_nil,List.append_nil]
theorem Xcf (vs:List (Option Addr×Nat×List UInt8))(k:Nat):(Qc (vs.take k)).length≤(Qc vs).length:=by
 have:Qc vs=Qc (vs.take k)++Qc (vs.drop k):=by
  unfold Qc;rw[← List.flatten_append,←List.map_append,List.take_append_drop]
 rw[this,List.length_append];omega
theorem Xi9 (fb cap:Nat)(vs:List (Option Addr×Nat×List UInt8))(w:World)(hP:PartsAt w fb vs)(hfb:fb<w.heap.size)(hv:vs.length≤1048576)(h0:0<(Qc vs).length)(hn:(Qc vs).length≤1048576):
  Calls Tryz.prog 76 #[.slice (some ⟨fb,0,none⟩) vs.length cap] w fun e w'=>∃v,e=.returned v∧w'.ownsRow w.heap.size 5 1 v (Qc vs).length (Lib.byteCells (Qc vs))∧Below w.heap.size w w':=by
 obtain⟨i0,hi,hz0,hz1,hz2⟩:=info_parts infoByte;go_enter Tryz.func76,Tryz.ntmps76
 go_wp2
 go_loop [3,11] (fun s i=>∃k,k≤vs.length∧i=.int .i64 (k:Nat)∧s=.int .i64 ((Qc (vs.take k)).length:Nat)) (fun _ i=>vs.length -(intOf i).toNat)
 case atStart=>exact⟨0,Nat.zero_le _,rfl,rfl⟩
 case round=>
  obtain⟨k,hk,rfl,rfl⟩:=hrel;by_cases hlt:k<vs.length
  ·obtain ⟨hcell,_⟩:=hP k hlt;have hle:=Xcf vs (k+1);have hc:=congrArg List.length (XeU vs k hlt);rw[List.length_append]at hc;generalize vs[k].1=p at hcell;generalize vs[k].2.1=c at hcell;generalize vs[k].2.2.length=x at hcell hc;generalize (Qc (vs.take k)).length=y at hc;have HC:=hide hc;have hb1:y+x≤1048576:=by omega
   clear hc hle;have hng:¬((y:Int)+(x:Int)<0):=by omega
   go_wp2
   go_round
   case rel=>exact⟨k+1,by omega,by go_num,by rw[HC.out];go_num⟩
   case measure=>simp[intOf];omega
  ·obtain rfl:k=vs.length:=by omega
   rw[List.take_length];have hgr:=XmJ (Qc vs).length h0 hn w;have HG:=hide hgr;clear hgr;go_wp2_with fail
   refine(Xa HG).mono ?_;rintro e w1 ⟨v1,rfl,hown1,⟨g1,c1,rfl,hg1⟩,hb1⟩;clear HG;have HO:=hide hown1;have HB:=hide hb1;clear hown1 hb1;go_wp2
   go_loopw [6,27] (fun s i wr=>∃k,k≤vs.length∧i=.int .i64 (k:Nat)∧wr.ownsRow w.heap.size 5 1 s (Qc (vs.take k)).length (Lib.byteCells (Qc (vs.take k)))∧(∃ g n c,s=.slice (some ⟨g,0,none⟩) n c)∧Below w.heap.size w wr) (fun _ i _=>vs.length -(intOf i).toNat)
   case atStart=>exact⟨0,Nat.zero_le _,rfl,Xa HO,⟨_,_,_,rfl⟩,Xa HB⟩
   case round=>
    clear HO HB;obtain⟨k,hk,rfl,hown,⟨g,n,c,rfl⟩,hbw⟩:=hrel;have hbz:=hbw.size;by_cases hlt2:k<vs.length
    ·obtain ⟨hcell,hsrc⟩:=hP.below hbw (Nat.le_refl _) hfb k hlt2;have hle:=Xcf vs (k+1);have hc:=XeU vs k hlt2
     have HN:Hid (n=(Qc (vs.take k)).length):=by
      show n=_
      rcases hown.2 with⟨h,_⟩|⟨_,_,_,h,_⟩
      ·cases h
      ·simp only[Value.slice.injEq]at h;exact h.2.1
     rw[hc,List.length_append]at hle;generalize vs[k].1=p at hcell hsrc;generalize vs[k].2.1=cp at hcell;generalize vs[k].2.2=l at hcell hsrc hc hle;have HC:=hide hc;clear hc;generalize Qc (vs.take k)=done at hown HN HC hle;have HO:=hide hown;clear hown;rcases hsrc with⟨rfl,rfl⟩|⟨b,off,rfl,hb,hseg⟩
     ·have hnc:n≤c:=by
       rcases(Xa HO).2 with⟨h,_⟩|⟨_,_,_,h,_,_,h2,_⟩
       ·cases h
       ·simp only[Value.slice.injEq]at h;omega
      go_wp2_with (at_builtin;refine ZM _ rfl _ _ 28 rfl 5 i0 Tryz.underlying28 hi g n c cp rfl hnc rfl ?_)
      go_wp2
      go_roundw
      case rel=>exact⟨k+1,by omega,by go_num,by rw[HC.out,List.append_nil];exact Xa HO,⟨_,_,_,rfl⟩,hbw⟩
      case measure=>simp[intOf];omega
     ·go_wp2_with (at_builtin;refine wpList_append_own _ rfl _ _ 28 rfl w.heap.size 5 i0 _ 1 1 Tryz.underlying28 hi hz0 hz1 hz2 rfl (by decide) _ _ _ rfl (Xa HO) ⟨b,off,none⟩ l.length cp (Lib.byteCells l) rfl (by simp[Lib.byteCells]) ?ac1 ?ac2 ?ac3 ?ac4 ?ac5 ?_)
      case ac1=>exact hseg.news
      case ac2=>exact byteCells_one l
      case ac3=>unfold maxLen;omega
      case ac4=>omega
      case ac5=>exact hbz
      intro v1 w1 hown1 hg1 hnil;have hge:w.heap.size≤g:=((Xa HO).lt g rfl).1;have hb1:Below w.heap.size w w1:=hbw.grown hg1 hbz (fun k hk=>by simp[Value.ownBlock]at hk;omega);rw[← Lib.byteCells_append]at hown1
      have hsl:∃g n c,v1=.slice (some ⟨g,0,none⟩) n c:=by
       rcases hown1.2 with⟨h,_⟩|⟨g',c',_,h,_⟩
       ·exact (hnil h).elim
       ·exact ⟨g',_,c',h⟩
      have HO1:=hide hown1;have HB1:=hide hb1;clear hown1 hb1 hg1 hnil;go_wp2
      go_roundw
      case rel=>exact⟨k+1,by omega,by go_num,by rw[HC.out,List.length_append];exact Xa HO1,hsl,Xa HB1⟩
      case measure=>simp[intOf];omega
    ·obtain rfl:k=vs.length:=by omega
     rw[List.take_length]at hown;go_wp2
     go_ret
     exact⟨_,rfl,hown,hbw⟩
theorem Xop {w:World}{base n:Nat}{v:Value}{l:List UInt8}(h:w.ownsRow base 5 1 v n (Lib.byteCells l))(hn:n=l.length)(h0:0<n):∃g cap,v=.slice (some ⟨g,0,none⟩) n cap∧Seg w g 0 l∧base≤g∧g<w.heap.size∧n≤cap∧cap≤maxLen:=by
 obtain⟨g,cap,rfl,hseg⟩:=Xhb h hn h0;have hl:=h.lt g rfl;rcases h.2 with⟨h1,_⟩|⟨g',cap',cur,hv,_,_,h2,h3,_⟩
 ·cases h1
 ·simp only[Value.slice.injEq]at hv;obtain⟨_,_,rfl⟩:=hv;exact⟨g,cap,rfl,hseg,hl.1,hl.2,h2,h3⟩
theorem Xad {w:World}{base n cp:Nat}{q:Option Addr}{l:List UInt8}(h:w.ownsRow base 5 1 (.slice q n cp) n (Lib.byteCells l))(hn:n=l.length):XU w q l:=by
 by_cases h0:0<n
 ·obtain ⟨g,cap,hv,hseg,_,hlt,_⟩:=Xop h hn h0;simp only[Value.slice.injEq]at hv;exact .inr ⟨g,0,hv.1,hlt,hseg⟩
 ·have hl:l=[]:=List.eq_nil_of_length_eq_zero (by omega);rcases h.2 with⟨h1,_⟩|⟨g,cap,cur,hv,_,hg,_⟩
  ·simp only[Value.slice.injEq]at h1;exact .inl ⟨h1.1,hl⟩
  ·simp only[Value.slice.injEq]at hv;subst hl;exact .inr ⟨g,0,hv.1,(Array.getElem?_eq_some_iff.1 hg).1,Seg.nil _ _ _⟩
theorem XU.conv {w:World}{p:Option Addr}{l:List UInt8}(h:XU w p l)(cap:Nat):(convert 28 9 (.slice p l.length cap)).run Tryz.prog w=.ok (.string ⟨l.toArray⟩) w:=by
 have hin:Lib.BytesIn w p l.length (nums l):=by
  rcases h with⟨rfl,rfl⟩|⟨b,off,rfl,_,hseg⟩
  ·exact Lib.BytesIn.nil _ _ _
  ·exact hseg.bytesIn
 have:=hin.convert (nums_length _) cap 28 5 9 Tryz.underlying28 Tryz.underlying5 Tryz.underlying9;rw[this];have e:strOfNums (nums l)=⟨(Lib.bytesOf (nums l)).toArray⟩:=rfl;rw[e,JR]
theorem ownsRow_below {w w':World}{base:Nat}{e:TypeId}{size:Nat}{v:Value}{n:Nat}{xs:List Value}(h:w.ownsRow base e size v n xs)(hb:Below w.heap.size w w'):w'.ownsRow base e size v n xs:=by
 obtain⟨h1,h2⟩:=h;refine⟨h1,?_⟩;rcases h2 with h2|⟨g,cap,cur,e1,e2,e3,e4⟩
 ·exact Or.inl h2
 ·exact Or.inr ⟨g,cap,cur,e1,e2,by rw[hb.block g (Array.getElem?_eq_some_iff.1 e3).1];exact e3,e4⟩
theorem Xfd {n:Nat}(h:n%4=0)(j:Nat)(hj:j<4):Ja (n+j)=Ja n:=by
 unfold Ja;have:(n+j) / 4=n / 4:=by omega
 rw[this]
def Ye (w:World)(B:Nat)(p:Option Addr)(c:Nat)(s:ByteArray):Prop:=(p=none∧c=0∧s.size=0)∨∃g,p=some ⟨g,0,none⟩∧c=s.size+8∧B≤g∧Yu w g (ZO s)
theorem Ye.below {w w':World}{B:Nat}{p:Option Addr}{c:Nat}{s:ByteArray}(h:Ye w B p c s)(hb:Below w.heap.size w w'):Ye w' B p c s:=by
 rcases h with h|⟨g,h1,h2,h3,h4⟩
 ·exact .inl h
 ·exact .inr ⟨g,h1,h2,h3,h4.below hb h4.lt⟩
theorem Ye.src {w:World}{B:Nat}{p:Option Addr}{c:Nat}{s:ByteArray}(h:Ye w B p c s):XU w p s.data.toList:=by
 rcases h with⟨rfl,_,h0⟩|⟨g,rfl,_,_,h4⟩
 ·refine .inl ⟨rfl,?_⟩;exact List.eq_nil_of_length_eq_zero (by simpa using h0)
 ·refine .inr ⟨g,0,rfl,h4.lt,?_⟩;have:=h4.seg.take s.size
  have e:(ZO s).take s.size=s.data.toList:=by
   have e2:s.size=s.data.toList.length:=by simp
   rw[ZO,e2,List.take_left]
  rwa [e]at this
theorem Ye.cap {w:World}{B:Nat}{p:Option Addr}{c:Nat}{s:ByteArray}(h:Ye w B p c s):s.size≤c∧c≤s.size+8:=by
 rcases h with⟨_,hc,h0⟩|⟨_,_,hc,_⟩ <;> omega
theorem Xac (s:ByteArray)(raw:Int)(w:World)(hs:s.size≤1099511627776):
  Calls Tryz.prog 24 #[.string s,.int .i64 raw] w fun e w'=>∃p c,e=.returned (.slice p s.size c)∧Ye w' w.heap.size p c s∧Below w.heap.size w w':=by
 by_cases h:s.size=0∧raw.tmod 2≠0
 ·refine (XmU s raw w h.1 h.2).mono ?_;rintro e w' ⟨rfl,rfl⟩;exact⟨none,0,by rw[h.1],.inl ⟨rfl,rfl,h.1⟩,Below.refl _ _⟩
 ·refine (Xld s raw w hs h).mono ?_;rintro e w' ⟨rfl,hr,hb,_⟩;exact⟨_,_,rfl,.inr ⟨_,rfl,rfl,Nat.le_refl _,hr⟩,hb⟩
theorem JL {B:Nat}{p:Option Addr}{c:Nat}{s:ByteArray}{w:World}(h:Ye w B p c s)(hs:s.size≤1099511627776):
  Calls Tryz.prog 26 #[.slice p s.size c,.string s] w fun e w'=>e=.returned (.bool true)∧Xb (fun i=>some i=p.map (·.block)) w w'∧(∀ i,some i=p.map (·.block)→B≤i∧∃x,w.heap[i]?=some (.cells x 5 (0,0))):=by
 rcases h with⟨rfl,rfl,h0⟩|⟨g,rfl,rfl,hg,hr⟩
 ·rw[h0];refine(Xmj s w).mono ?_;rintro e w' ⟨rfl,rfl⟩;exact⟨rfl,Xb.refl _ _,fun i hi=>by simp at hi⟩
 ·refine (Xkg g s w hs hr).mono ?_;rintro e w' ⟨rfl,hk,_⟩;exact⟨rfl,hk.mono (fun i hi=>by simp[hi]),fun i hi=>by simp at hi;subst hi;exact⟨hg,_,hr⟩⟩
end Go.Proofs.YtkalonhalhdlaaaGreatDoor
namespace Go.Proofs.YtkalonhalhdlaaaGreatDoor
open Go
def XP (m:Int):Bool:=decide (m=8)||decide (m=128)
def XL (a:Int):Bool:=decide (a=1)||decide (a=3)
def Zt (k:Int):Bool:=decide (1≤k)&&decide (k≤9)
def X9 (k:Int):Bool:=decide (k=1)
def XJ (k:Int):Bool:=decide (1≤k)&&decide (k≤4)
def XX (m n:Int)(has:Bool):Bool:=if has then decide (0≤n)&&decide (n<m)else decide (n=0)
def JE (m:Int):Int:=if m=8 then 3 else 5
def Yc (m k n:Int):Bool:=if k=1 then decide (n≤32)else if k=9 then n==JE m else n==0
def Xa5:List Nat:=[0,0,1,5,9,47,67,99,15,135]
def Xv (m k:Nat):Nat:=if k=5∧m=128 then 111 else Xa5.getD k 0
def maskN (m k:Nat):Nat:=if k=1 then 1 else if 4<k then 239 else if m=8 then 15 else 255
def wide (m k:Nat):Bool:=decide (m=128)&&decide (k≤4)
def cbN (m k:Nat):Nat:=if wide m k then 2 else 1
def X3 (p:Bool)(n:Nat):Nat:=if p then n else 0
def Yo (m k ns nr:Nat)(p:Bool):List UInt8:=
 if wide m k then [UInt8.ofNat (Xv m k+2*ns),UInt8.ofNat (X3 p 1+2*nr)]
 else [UInt8.ofNat (Xv m k+2*ns+X3 p 16+32*nr)]
def XE (m c:Nat):Nat→Nat→Option Nat
 |_,0=>none
 |k,n+1=>if c &&& maskN m k=Xv m k then some k else XE m c (k+1) n
structure Fr where
 a:Int
 k:Int
 p:Bool
 ns:Int
 nr:Int
 info:List UInt8
def ZK:Fr:=⟨0,0,false,0,0,[]⟩
def XT (m:Int)(f:Fr):Nat×List UInt8:=
 if(XP m&&Zt f.k&&XX m f.ns (X9 f.k)&&XX m f.nr (XJ f.k))=false then(1,[])
 else if XL f.a=false then(3,[])
 else if Yc m f.k f.info.length=false then(5,[])
 else(0,UInt8.ofNat f.a.toNat::(Yo m.toNat f.k.toNat f.ns.toNat f.nr.toNat f.p++f.info))
def XK (m:Int)(b:List UInt8):Nat×Nat:=
 if XP m=false then(0,1)
 else match b with
 | []=>(0,2)
 |a::r=>if XL a.toNat=false then(0,3)else match r with
  | []=>(0,2)
  |c::_=>match XE m.toNat c.toNat 1 9 with
   |some k=>(k,0)
   |none=>(0,4)
def XY (m k:Nat)(c:List UInt8):Fr:=
 let c0:=(c.getD 0 0).toNat
 let c1:=(c.getD 1 0).toNat
 if 4<k then⟨0,k,decide (c0 &&& 16≠0),0,0,[]⟩
 else if m=8 then⟨0,k,decide (c0 &&& 16≠0),if k=1 then(c0 / 2%m:Nat)else 0,(c0 / 32:Nat),[]⟩
 else⟨0,k,decide (c1%2≠0),if k=1 then(c0 / 2%m:Nat)else 0,(c1 / 2:Nat),[]⟩
def Xi (m:Int)(b:List UInt8):Nat×Fr:=
 let r:=XK m b
 if r.2≠0 then(r.2,ZK)
 else
  let at':=1+cbN m.toNat r.1
  if b.length<at' then(2,ZK)
  else if Yc m r.1 (b.length-at':Nat)=false then(5,ZK)
  else(0,{XY m.toNat r.1 (b.drop 1)with a:=(b.getD 0 0).toNat,info:=b.drop at'})
theorem Xf0 (m k:Nat):Xv m k<256:=by
 unfold Xv Xa5;split
 ·omega
 ·match k with
  |0|1|2|3|4|5|6|7|8|9=>simp
  |k+10=>simp
theorem XmZ (m k:Nat):maskN m k<256:=by
 unfold maskN;split
 ·omega
 ·split
  ·omega
  ·split <;> omega
theorem Jr {m c k n r:Nat}(h:XE m c k n=some r):k≤r∧r<k+n:=by
 induction n generalizing k with
 |zero=>simp[XE]at h
 |succ n ih=>
  unfold XE at h;split at h
  ·simp at h;omega
  ·have:=ih h;omega
abbrev Msg:=List UInt8
structure Cfg where
 m:Nat
 win:Nat
 tim:Nat
 tri:Nat
 room:Nat
 addr:Nat
structure Cfg.ok (c:Cfg):Prop where
 m:c.m=8∨c.m=128
 win1:1≤c.win
 win15:c.win≤15
 winm:c.win<c.m
 tim1:1≤c.tim
 tim100:c.tim≤100
 tri1:1≤c.tri
 tri10:c.tri≤10
 room1:1≤c.room
 room16:c.room≤16
 addr:c.addr=1∨c.addr=3
structure St where
 state:Nat
 vs:Nat
 va:Nat
 vr:Nat
 vm:Nat
 queue:List Msg
 timer:Nat
 tries:Nat
 Xh:Bool
 peer:Bool
 Xu:Bool
 busy:Bool
 came:List Msg
 out:List Msg
 events:List Nat
def St.fresh:St:=⟨0,0,0,0,0,[],0,0,false,false,false,false,[],[],[]⟩
def ahead (c:Cfg)(s:St)(n:Nat):Nat:=(n+c.m-s.va)%c.m
def follow (c:Cfg)(n:Nat):Nat:=(n+1)%c.m
def over (s:St):St:={s with vs:=0,va:=0,vr:=0,vm:=0,queue:=[],timer:=0,tries:=0,Xh:=false,peer:=false,Xu:=false}
def put (c:Cfg)(f:Fr)(s:St):St:={s with out:=s.out++[(XT c.m f).2]}
def Za (c:Cfg)(f:Fr)(s:St):St:=put c {f with a:=4 -(c.addr:Int)} s
def QD (c:Cfg)(f:Fr)(s:St):St:=put c {f with a:=(c.addr:Int)} s
def tell (e:Nat)(s:St):St:={s with events:=s.events++[e]}
def XO (c:Cfg)(s:St):Bool:=s.busy||decide (c.room≤s.came.length)
def ready (c:Cfg)(s:St):Nat:=if XO c s then 3 else 2
def answer (c:Cfg)(p:Bool)(s:St):St:=QD c ⟨0,ready c s,p,0,s.vr,[]⟩ s
def Yj (c:Cfg)(k:Nat)(p:Bool)(s:St):St:=QD c ⟨0,k,p,0,0,[]⟩ s
def report (c:Cfg)(p:Bool)(s:St):St:=QD c ⟨0,9,p,0,0,List.replicate (JE c.m).toNat 0⟩ s
def ask (c:Cfg)(state kind:Nat)(s:St):St:=Za c ⟨0,kind,true,0,0,[]⟩ {over s with state:=state,tries:=1,timer:=c.tim}
def Xaj (c:Cfg)(s:St):St:=ask c 1 5 s
def Zi (e:Nat)(s:St):St:=tell e {over s with state:=0}
def Xap (e:Nat)(s:St):St:=tell e {over s with state:=2}
def accept (c:Cfg)(p:Bool)(e:Nat)(s:St):St:=Yj c 7 p (Xap e s)
def agree (c:Cfg)(p:Bool)(s:St):St:=Zi 3 (Yj c 7 p s)
def YU (c:Cfg)(s:St):Bool:=!s.peer&&(decide (ahead c s s.vs<s.queue.length)&&decide (ahead c s s.vs<c.win))
def JZ (c:Cfg)(s:St):St:=if ahead c s s.vm<ahead c s s.vs then {s with vm:=s.vs} else s
def XF (c:Cfg)(s:St):St:=
 JZ c {Za c ⟨0,1,false,s.vs,s.vr,s.queue.getD (ahead c s s.vs) []⟩ s with vs:=follow c s.vs}
def YT (c:Cfg):Nat→St→St
 |0,s=>s
 |n+1,s=>if YU c s then YT c n (XF c s)else s
def XV (c:Cfg)(s:St):St:=
 if s.va=s.vm∧s.peer=false then {s with timer:=0}
 else if s.timer=0 then {s with timer:=c.tim,tries:=1} else s
def pump (c:Cfg)(s:St):St:=if s.Xh then s else XV c (YT c 16 s)
def X8 (c:Cfg)(f:Fr):Bool:=f.a==(c.addr:Int)
def XI (c:Cfg)(s:St)(nr:Nat):Bool:=decide (ahead c s nr≤ahead c s s.vm)
def Xe (c:Cfg)(nr:Nat)(s:St):St:=
 if ahead c s nr=0 then s
 else {s with vs:=if ahead c s s.vs<ahead c s nr then nr else s.vs,queue:=s.queue.drop (ahead c s nr),va:=nr,timer:=if s.Xh then s.timer else 0}
def Zo (c:Cfg)(f:Fr)(s:St):St:=tell 2 (report c (X8 c f&&f.p) {over s with state:=4})
def Xn (c:Cfg)(f:Fr)(s:St):St:=
 let s1:={s with peer:=f.k==3,vs:=if f.k=4 then f.nr.toNat else s.vs}
 if f.p=false then s1
 else if X8 c f then answer c true s1
 else if s1.Xh then {s1 with Xh:=false,vs:=f.nr.toNat,timer:=0} else s1
def Ym (c:Cfg)(f:Fr)(s:St):St:=
 if XO c s then answer c f.p s
 else if f.ns=s.vr then answer c f.p {s with vr:=follow c s.vr,came:=s.came++[f.info],Xu:=false}
 else if s.Xu=false then QD c ⟨0,4,f.p,0,s.vr,[]⟩ {s with Xu:=true}
 else if f.p then answer c true s else s
def YO (c:Cfg)(f:Fr)(s:St):St:=
 if XI c s f.nr.toNat=false then Zo c f s
 else pump c (if f.k=1 then Ym c f (Xe c f.nr.toNat s)else Xn c f (Xe c f.nr.toNat s))
def Zf (c:Cfg)(f:Fr):Bool:=
 if f.k=1∨f.k=5∨f.k=6 then X8 c f
 else if f.k=7∨f.k=8∨f.k=9 then !X8 c f else true
def Zw (c:Cfg)(f:Fr)(s:St):St:=
 if f.k=5 then accept c f.p 1 s
 else if f.k=6 then Yj c 8 f.p s
 else if f.k=1∨f.k=2∨f.k=3∨f.k=4 then(if X8 c f&&f.p then Yj c 8 f.p s else s)else s
def YM (c:Cfg)(f:Fr)(s:St):St:=
 if f.k=5 then Yj c 7 f.p s
 else if f.k=6 then Yj c 8 f.p s
 else if f.k=7∧f.p=true then Xap 1 s
 else if f.k=8∧f.p=true then Zi 4 s else s
def Zu (c:Cfg)(f:Fr)(s:St):St:=
 if f.k=5 then accept c f.p 2 s
 else if f.k=6 then agree c f.p s
 else if f.k=8 then Zi 3 s
 else if f.k=7∨f.k=9 then Xaj c (tell 2 s)
 else if f.k=1∨f.k=2∨f.k=3∨f.k=4 then YO c f s else s
def YN (c:Cfg)(f:Fr)(s:St):St:=
 if f.k=5 then Yj c 8 f.p s
 else if f.k=6 then Yj c 7 f.p s
 else if f.k=7∨f.k=8 then(if f.p then Zi 3 s else s)else s
def Y3 (c:Cfg)(f:Fr)(s:St):St:=
 if f.k=5∨f.k=6∨f.k=8 then Zu c f s
 else if f.k=1∨f.k=2∨f.k=3∨f.k=4 then(if X8 c f then report c f.p s else s)else s
def Yr (c:Cfg)(f:Fr)(s:St):St:=
 if s.state=0 then Zw c f s
 else if s.state=1 then YM c f s
 else if s.state=2 then Zu c f s
 else if s.state=3 then YN c f s
 else if s.state=4 then Y3 c f s else s
def X4 (c:Cfg)(s:St):Nat×St:=if s.state=0∨s.state=4 then(0,Xaj c s)else(6,s)
def YF (c:Cfg)(s:St):Nat×St:=if s.state=0∨s.state=3 then(6,s)else(0,ask c 3 6 s)
def Qa (c:Cfg)(b:Msg)(s:St):Nat×St:=
 if s.state≠2 then(6,s)else if 32<b.length then(1,s)else if 20≤s.queue.length then(7,s)
 else(0,pump c {s with queue:=s.queue++[b]})
def change (c:Cfg)(was:Bool)(s:St):St:=if s.state=2∧XO c s≠was then answer c false s else s
def Qz (c:Cfg)(on:Bool)(s:St):St:=change c (XO c s) {s with busy:=on}
def ZL (c:Cfg)(s:St):St:=change c (XO c s) {s with came:=[]}
def Yy (c:Cfg)(b:Msg)(s:St):Nat×St:=
 if(Xi c.m b).1≠0 then((Xi c.m b).1,s)
 else(0,if Zf c (Xi c.m b).2 then Yr c (Xi c.m b).2 s else s)
def Zd (c:Cfg)(s:St):St:=
 if s.tries=c.tri then Zi 4 s
 else if s.state=1 then Za c ⟨0,5,true,0,0,[]⟩ {s with tries:=s.tries+1,timer:=c.tim}
 else if s.state=3 then Za c ⟨0,6,true,0,0,[]⟩ {s with tries:=s.tries+1,timer:=c.tim}
 else if s.state=2 then Za c ⟨0,ready c s,true,0,s.vr,[]⟩ {s with tries:=s.tries+1,timer:=c.tim,Xh:=true}
 else {s with tries:=s.tries+1,timer:=c.tim}
def Jd (c:Cfg)(s:St):St:=
 if s.timer=0 then s else if s.timer=1 then Zd c {s with timer:=0} else {s with timer:=s.timer-1}
structure St.ok (c:Cfg)(s:St):Prop where
 state:s.state≤4
 vs:s.vs<c.m
 va:s.va<c.m
 vr:s.vr<c.m
 vm:s.vm<c.m
 svs:ahead c s s.vs≤ahead c s s.vm
 svm:ahead c s s.vm≤s.queue.length
 vmw:ahead c s s.vm≤c.win
 q20:s.queue.length≤20
 q32:∀x∈s.queue,x.length≤32
 timer:s.timer≤c.tim
 tim0:s.state=0∨s.state=4→s.timer=0
 tries:s.tries≤c.tri
 came:s.came.length≤c.room
 down:s.state≠2→s.queue=[]∧s.Xh=false∧s.peer=false∧s.vs=0∧s.va=0∧s.vm=0∧s.vr=0∧s.Xu=false
section
variable {c:Cfg}{s:St}
theorem Cfg.ok.pos (hc:c.ok):0<c.m:=by
 have:=hc.m;omega
theorem QW (hc:c.ok)(n:Nat):follow c n<c.m:=Nat.mod_lt _ hc.pos
theorem Xha {m n a:Nat}(hm:m=8∨m=128)(hn:n<m)(ha:a<m)(h:(n+m-a)%m+1<m):((n+1)%m+m-a)%m=(n+m-a)%m+1:=by
 rcases hm with rfl|rfl <;> omega
theorem XjU {m n a:Nat}(hm:m=8∨m=128)(hn:n<m)(ha:a<m)(h:(n+m-a)%m=0):n=a:=by
 rcases hm with rfl|rfl <;> omega
theorem XjT {m a:Nat}(hm:m=8∨m=128)(ha:a<m):(a+m-a)%m=0:=by
 rcases hm with rfl|rfl <;> omega
theorem Xlx {m a n k:Nat}(hm:m=8∨m=128)(ha:a<m)(hn:n<m)(hk:k<m)(h:(n+m-a)%m=(k+m-a)%m):n=k:=by
 rcases hm with rfl|rfl <;> omega
theorem XjS {m a n x:Nat}(hm:m=8∨m=128)(ha:a<m)(hn:n<m)(hx:x<m)(h:(n+m-a)%m≤(x+m-a)%m):(x+m-n)%m=(x+m-a)%m -(n+m-a)%m:=by
 rcases hm with rfl|rfl <;> omega
theorem JP (hc:c.ok){n:Nat}(hn:n<c.m)(ha:s.va<c.m)(h:ahead c s n+1<c.m):ahead c s (follow c n)=ahead c s n+1:=Xha hc.m hn ha h
theorem XbF (hc:c.ok)(ha:s.va<c.m):ahead c s s.va=0:=XjT hc.m ha
theorem ahead_zero (hc:c.ok)(ha:s.va<c.m){n:Nat}(hn:n<c.m)(h:ahead c s n=0):n=s.va:=XjU hc.m hn ha h
theorem Xku (hc:c.ok)(ha:s.va<c.m){n k:Nat}(hn:n<c.m)(hk:k<c.m)(h:ahead c s n=ahead c s k):n=k:=Xlx hc.m ha hn hk h
theorem XbE (hc:c.ok)(ha:s.va<c.m){n x:Nat}(hn:n<c.m)(hx:x<c.m)(h:ahead c s n≤ahead c s x)(t:St)(ht:t.va=n):ahead c t x=ahead c s x-ahead c s n:=by
 unfold ahead at*;rw[ht];exact XjS hc.m ha hn hx h
theorem Xbn (hc:c.ok):St.ok c St.fresh:=by
 have hm:=hc.pos;refine⟨by simp[St.fresh],hm,hm,hm,hm,?_,?_,?_,by simp[St.fresh],by simp[St.fresh],by simp[St.fresh],by simp[St.fresh],by simp[St.fresh],by simp[St.fresh],by simp[St.fresh]⟩
 ·exact Nat.le_refl _
 ·simp[St.fresh,ahead]
 ·simp[St.fresh,ahead]
theorem XcI (hc:c.ok)(h:St.ok c s)(k:Nat)(hk:k≤4)(tm tr:Nat)(htm:tm≤c.tim)(htr:tr≤c.tri)(h0:k=0∨k=4→tm=0):St.ok c {over s with state:=k,timer:=tm,tries:=tr}:=by
 have hm:=hc.pos;refine⟨hk,hm,hm,hm,hm,?_,?_,?_,by simp[over],by simp[over],htm,h0,htr,h.came,fun _=>⟨rfl,rfl,rfl,rfl,rfl,rfl,rfl,rfl⟩⟩
 ·exact Nat.le_refl _
 ·simp[over,ahead]
 ·simp[over,ahead]
theorem Xlq (f:Fr)(h:St.ok c s):St.ok c (put c f s):=⟨h.state,h.vs,h.va,h.vr,h.vm,h.svs,h.svm,h.vmw,h.q20,h.q32,h.timer,h.tim0,h.tries,h.came,h.down⟩
theorem XcK (f:Fr)(h:St.ok c s):St.ok c (Za c f s):=Xlq _ h
theorem XcL (f:Fr)(h:St.ok c s):St.ok c (QD c f s):=Xlq _ h
theorem XcO (e:Nat)(h:St.ok c s):St.ok c (tell e s):=⟨h.state,h.vs,h.va,h.vr,h.vm,h.svs,h.svm,h.vmw,h.q20,h.q32,h.timer,h.tim0,h.tries,h.came,h.down⟩
theorem Xan (p:Bool)(h:St.ok c s):St.ok c (answer c p s):=XcL _ h
theorem Qe (k:Nat)(p:Bool)(h:St.ok c s):St.ok c (Yj c k p s):=XcL _ h
theorem Xfl (p:Bool)(h:St.ok c s):St.ok c (report c p s):=XcL _ h
theorem Xky (hc:c.ok)(h:St.ok c s)(k kind:Nat)(hk:k=1∨k=3):St.ok c (ask c k kind s):=
 XcK _ (XcI hc h k (by omega) c.tim 1 (Nat.le_refl _) hc.tri1 (by omega))
theorem Xf5 (hc:c.ok)(h:St.ok c s):St.ok c (Xaj c s):=Xky hc h 1 5 (.inl rfl)
theorem Xaq (hc:c.ok)(h:St.ok c s)(e:Nat):St.ok c (Zi e s):=
 XcO _ (XcI hc h 0 (by omega) 0 0 (Nat.zero_le _) (Nat.zero_le _) (by omega))
theorem XeW (hc:c.ok)(h:St.ok c s)(e:Nat):St.ok c (Xap e s):=
 XcO _ (XcI hc h 2 (by omega) 0 0 (Nat.zero_le _) (Nat.zero_le _) (by omega))
theorem XeN (hc:c.ok)(h:St.ok c s)(p:Bool)(e:Nat):St.ok c (accept c p e s):=Qe _ _ (XeW hc h e)
theorem Xmn (hc:c.ok)(h:St.ok c s)(p:Bool):St.ok c (agree c p s):=Xaq hc (Qe _ _ h) _
theorem Y9:YU c s=true↔s.peer=false∧ahead c s s.vs<s.queue.length∧ahead c s s.vs<c.win:=by
 simp[YU]
theorem Xc3:(XF c s).va=s.va:=by unfold XF JZ;split <;> rfl
theorem Xc4:(XF c s).vs=follow c s.vs:=by unfold XF JZ;split <;> rfl
theorem Xbz:(XF c s).queue=s.queue:=by unfold XF JZ;split <;> rfl
theorem Qu:(XF c s).state=s.state:=by unfold XF JZ;split <;> rfl
theorem Xa4:(XF c s).Xh=s.Xh:=by unfold XF JZ;split <;> rfl
theorem Xby (hc:c.ok)(h:St.ok c s)(hm:YU c s=true):ahead c (XF c s) (XF c s).vs=ahead c s s.vs+1:=by
 obtain⟨_,_,h3⟩:=Y9.1 hm;rw[Xc4];show(_+c.m -(XF c s).va)%c.m=_
 rw[Xc3];exact JP hc h.vs h.va (by have:=hc.winm;omega)
theorem Xam (hc:c.ok)(h:St.ok c s)(hm:YU c s=true)(h2:s.state=2):St.ok c (XF c s):=by
 obtain⟨h1,h2',h3⟩:=Y9.1 hm;have hf:=JP hc h.vs h.va (show ahead c s s.vs+1<c.m by have:=hc.winm;omega);have hfl:=QW hc s.vs;have e1:∀n,ahead c {Za c ⟨0,1,false,s.vs,s.vr,s.queue.getD (ahead c s s.vs) []⟩ s with vs:=follow c s.vs} n=ahead c s n:=fun n=>rfl
 unfold XF JZ;rw[e1,e1];split
 ·refine ⟨h.state,hfl,h.va,h.vr,hfl,Nat.le_refl _,?_,?_,h.q20,h.q32,h.timer,h.tim0,h.tries,h.came,fun hh=>absurd h2 hh⟩
  ·show ahead c s (follow c s.vs)≤s.queue.length
   omega
  ·show ahead c s (follow c s.vs)≤c.win
   omega
 ·refine ⟨h.state,hfl,h.va,h.vr,h.vm,?_,h.svm,h.vmw,h.q20,h.q32,h.timer,h.tim0,h.tries,h.came,fun hh=>absurd h2 hh⟩;show ahead c s (follow c s.vs)≤ahead c s s.vm
  rename_i hn
  have hn':¬ahead c s s.vm<ahead c s (follow c s.vs):=hn;omega
theorem Xna (hc:c.ok)(n:Nat):∀ {s:St},St.ok c s→s.state=2→St.ok c (YT c n s)∧(YT c n s).state=2:=by
 induction n with
 |zero=>intro s h h2;exact⟨h,h2⟩
 |succ n ih=>
  intro s h h2;unfold YT;by_cases hm:YU c s=true
  ·rw[if_pos hm];exact ih (Xam hc h hm h2) (Qu.trans h2)
  ·rw[if_neg hm];exact⟨h,h2⟩
theorem Xij (hc:c.ok)(h:St.ok c s)(h2:s.state=2):St.ok c (XV c s):=by
 unfold XV;split
 ·exact ⟨h.state,h.vs,h.va,h.vr,h.vm,h.svs,h.svm,h.vmw,h.q20,h.q32,Nat.zero_le _,fun _=>rfl,h.tries,h.came,fun hh=>absurd h2 hh⟩
 ·split
  ·exact ⟨h.state,h.vs,h.va,h.vr,h.vm,h.svs,h.svm,h.vmw,h.q20,h.q32,Nat.le_refl _,fun hh=>by simp only at hh;omega,hc.tri1,h.came,fun hh=>absurd h2 hh⟩
  ·exact h
theorem Xez (hc:c.ok)(h:St.ok c s)(h2:s.state=2):St.ok c (pump c s):=by
 unfold pump;split
 ·exact h
 ·have:=Xna hc 16 h h2;exact Xij hc this.1 this.2
theorem Zc (hc:c.ok)(h:St.ok c s){nr:Nat}(hn:nr<c.m):(Xe c nr s).va=nr:=by
 unfold Xe;split
 ·rename_i h0
  exact(ahead_zero hc h.va hn h0).symm
 ·rfl
theorem X5 {nr:Nat}:(Xe c nr s).state=s.state:=by unfold Xe;split <;> rfl
theorem Yl (hc:c.ok)(h:St.ok c s)(h2:s.state=2){nr:Nat}(hn:nr<c.m)(hg:XI c s nr=true):St.ok c (Xe c nr s):=by
 have hg':ahead c s nr≤ahead c s s.vm:=by simpa[XI]using hg
 unfold Xe;split
 ·exact h
 ·rename_i h0
  have hvs:(if ahead c s s.vs<ahead c s nr then nr else s.vs)<c.m:=by split;exact hn;exact h.vs
  generalize ht:({s with vs:=if ahead c s s.vs<ahead c s nr then nr else s.vs,queue:=s.queue.drop (ahead c s nr),va:=nr,timer:=if s.Xh then s.timer else 0}:St)=t;have hta:t.va=nr:=by rw[← ht]
  have htm:t.vm=s.vm:=by rw[← ht]
  have hts:t.vs=if ahead c s s.vs<ahead c s nr then nr else s.vs:=by rw[← ht]
  have htq:t.queue=s.queue.drop (ahead c s nr):=by rw[← ht]
  have e1:ahead c t t.vm=ahead c s s.vm-ahead c s nr:=by rw[htm];exact XbE hc h.va hn h.vm hg' t hta
  have e2:ahead c t t.vs≤ahead c t t.vm:=by
   rw[e1,hts];split
   ·have:ahead c t nr=0:=by rw[← hta];exact XbF hc (by rw[hta];exact hn)
    omega
   ·rw[XbE hc h.va hn h.vs (by omega) t hta];have:=h.svs;omega
  have e3:ahead c t t.vm≤t.queue.length:=by rw[e1,htq,List.length_drop];have:=h.svm;omega
  have e4:ahead c t t.vm≤c.win:=by rw[e1];have:=h.vmw;omega
  have e5:t.queue.length≤20:=by rw[htq,List.length_drop];have:=h.q20;omega
  have e6:∀x∈t.queue,x.length≤32:=by rw[htq];exact fun x hx=>h.q32 x (List.mem_of_mem_drop hx)
  have e7:t.timer≤c.tim:=by rw[← ht];show(if s.Xh then s.timer else 0)≤_;split;exact h.timer;exact Nat.zero_le _
  have e8:t.state=2:=by rw[← ht];exact h2
  exact⟨by omega,by rw[hts];exact hvs,by rw[hta];exact hn,by rw[← ht];exact h.vr,by rw[htm];exact h.vm,e2,e3,e4,e5,e6,e7,fun hh=>by omega,by rw[← ht];exact h.tries,by rw[← ht];exact h.came,fun hh=>absurd e8 hh⟩
theorem Xhj (hc:c.ok)(h:St.ok c s)(h2:s.state=2)(p b:Bool)(tm:Nat)(htm:tm≤c.tim):St.ok c {s with vs:=s.va,peer:=p,Xh:=b,timer:=tm}:=
 ⟨h.state,h.va,h.va,h.vr,h.vm,by show ahead c s s.va≤ahead c s s.vm;rw[XbF hc h.va];exact Nat.zero_le _,h.svm,h.vmw,h.q20,h.q32,htm,fun hh=>by simp only at hh;omega,h.tries,h.came,fun hh=>absurd h2 hh⟩
theorem Xj0 (h:St.ok c s)(h2:s.state=2)(p:Bool):St.ok c {s with peer:=p}:=
 ⟨h.state,h.vs,h.va,h.vr,h.vm,h.svs,h.svm,h.vmw,h.q20,h.q32,h.timer,h.tim0,h.tries,h.came,fun hh=>absurd h2 hh⟩
theorem ZZ (hc:c.ok)(h:St.ok c s)(h2:s.state=2)(f:Fr)(hn:s.va=f.nr.toNat):St.ok c (Xn c f s):=by
 have h1:St.ok c {s with peer:=f.k==3,vs:=if f.k=4 then f.nr.toNat else s.vs}:=by
  split
  ·rw[← hn];exact Xhj hc h h2 (f.k==3) s.Xh s.timer h.timer
  ·exact Xj0 h h2 _
 have h3:St.ok c {s with peer:=f.k==3,vs:=f.nr.toNat,Xh:=false,timer:=0}:=by
  rw[← hn];exact Xhj hc h h2 (f.k==3) false 0 (Nat.zero_le _)
 unfold Xn;dsimp only
 split
 ·exact h1
 ·split
  ·exact Xan _ h1
  ·split
   ·exact h3
   ·exact h1
theorem Zj (f:Fr):(Xn c f s).state=s.state:=by
 unfold Xn;dsimp only
 split
 ·rfl
 ·split
  ·rfl
  ·split <;> rfl
theorem QB (hc:c.ok)(h:St.ok c s)(h2:s.state=2)(f:Fr):St.ok c (Ym c f s):=by
 unfold Ym;split
 ·exact Xan _ h
 ·rename_i hu
  split
  ·refine Xan _ ⟨h.state,h.vs,h.va,QW hc _,h.vm,h.svs,h.svm,h.vmw,h.q20,h.q32,h.timer,h.tim0,h.tries,?_,fun hh=>absurd h2 hh⟩;simp[XO]at hu;simp;omega
  ·split
   ·exact XcL _ ⟨h.state,h.vs,h.va,h.vr,h.vm,h.svs,h.svm,h.vmw,h.q20,h.q32,h.timer,h.tim0,h.tries,h.came,fun hh=>absurd h2 hh⟩
   ·split
    ·exact Xan _ h
    ·exact h
theorem ZF (f:Fr):(Ym c f s).state=s.state:=by
 unfold Ym;split
 ·rfl
 ·split
  ·rfl
  ·split
   ·rfl
   ·split <;> rfl
theorem Xgf (hc:c.ok)(h:St.ok c s)(f:Fr):St.ok c (Zo c f s):=
 XcO _ (Xfl _ (XcI hc h 4 (by omega) 0 0 (Nat.zero_le _) (Nat.zero_le _) (fun _=>rfl)))
theorem Xjn (hc:c.ok)(h:St.ok c s)(h2:s.state=2)(f:Fr)(hn:f.nr.toNat<c.m):St.ok c (YO c f s):=by
 unfold YO;split
 ·exact Xgf hc h f
 ·rename_i hg
  have hg':XI c s f.nr.toNat=true:=eq_true_of_ne_false hg;have ha:=Yl hc h h2 hn hg';have hs:(Xe c f.nr.toNat s).state=2:=X5.trans h2;split
  ·exact Xez hc (QB hc ha hs f) ((ZF f).trans hs)
  ·exact Xez hc (ZZ hc ha hs f (Zc hc h hn)) ((Zj f).trans hs)
theorem Xe3 (hc:c.ok)(h:St.ok c s){f:Fr}(h2:s.state=2∨f.k=5∨f.k=6∨f.k=8)(hn:f.nr.toNat<c.m):St.ok c (Zu c f s):=by
 unfold Zu;split
 ·exact XeN hc h _ _
 ·split
  ·exact Xmn hc h _
  ·split
   ·exact Xaq hc h _
   ·split
    ·exact Xf5 hc (XcO _ h)
    ·split
     ·exact Xjn hc h (by omega) f hn
     ·exact h
theorem Xgv (hc:c.ok)(h:St.ok c s)(f:Fr)(hn:f.nr.toNat<c.m):St.ok c (Yr c f s):=by
 unfold Yr;split
 ·unfold Zw;split
  ·exact XeN hc h _ _
  ·split
   ·exact Qe _ _ h
   ·split
    ·split
     ·exact Qe _ _ h
     ·exact h
    ·exact h
 ·split
  ·unfold YM;split
   ·exact Qe _ _ h
   ·split
    ·exact Qe _ _ h
    ·split
     ·exact XeW hc h _
     ·split
      ·exact Xaq hc h _
      ·exact h
  ·split
   ·exact Xe3 hc h (.inl (by assumption)) hn
   ·split
    ·unfold YN;split
     ·exact Qe _ _ h
     ·split
      ·exact Qe _ _ h
      ·split
       ·split
        ·exact Xaq hc h _
        ·exact h
       ·exact h
    ·split
     ·unfold Y3;split
      ·exact Xe3 hc h (.inr (by assumption)) hn
      ·split
       ·split
        ·exact Xfl _ h
        ·exact h
       ·exact h
     ·exact h
theorem XhG (hc:c.ok)(h:St.ok c s):St.ok c (X4 c s).2:=by
 unfold X4;split
 ·exact Xf5 hc h
 ·exact h
theorem Xk6 (hc:c.ok)(h:St.ok c s):St.ok c (YF c s).2:=by
 unfold YF;split
 ·exact h
 ·exact Xky hc h 3 6 (.inr rfl)
theorem Xnj (hc:c.ok)(h:St.ok c s)(b:Msg):St.ok c (Qa c b s).2:=by
 unfold Qa;split
 ·exact h
 ·rename_i h2
  split
  ·exact h
  ·rename_i hb
   split
   ·exact h
   ·rename_i hq
    have h2':s.state=2:=by omega
    refine Xez hc ⟨h.state,h.vs,h.va,h.vr,h.vm,h.svs,?_,h.vmw,?_,?_,h.timer,h.tim0,h.tries,h.came,fun hh=>absurd h2' hh⟩ h2'
    ·have:=h.svm;show ahead c s s.vm≤(s.queue++[b]).length
     rw[List.length_append];omega
    ·show (s.queue++[b]).length≤20
     simp;omega
    ·intro x hx;rcases List.mem_append.1 hx with hx|hx
     ·exact h.q32 x hx
     ·simp at hx;subst hx;omega
theorem XeV (h:St.ok c s)(was:Bool):St.ok c (change c was s):=by
 unfold change;split
 ·exact Xan _ h
 ·exact h
theorem Xmv (h:St.ok c s)(on:Bool):St.ok c (Qz c on s):=
 XeV (s:={s with busy:=on}) ⟨h.state,h.vs,h.va,h.vr,h.vm,h.svs,h.svm,h.vmw,h.q20,h.q32,h.timer,h.tim0,h.tries,h.came,h.down⟩ _
theorem Xfn (h:St.ok c s):St.ok c (ZL c s):=
 XeV (s:={s with came:=[]}) ⟨h.state,h.vs,h.va,h.vr,h.vm,h.svs,h.svm,h.vmw,h.q20,h.q32,h.timer,h.tim0,h.tries,Nat.zero_le _,h.down⟩ _
theorem Xey (h:St.ok c s)(o:List Msg):St.ok c {s with out:=o}:=
 ⟨h.state,h.vs,h.va,h.vr,h.vm,h.svs,h.svm,h.vmw,h.q20,h.q32,h.timer,h.tim0,h.tries,h.came,h.down⟩
theorem XdI (h:St.ok c s)(o:List Nat):St.ok c {s with events:=o}:=
 ⟨h.state,h.vs,h.va,h.vr,h.vm,h.svs,h.svm,h.vmw,h.q20,h.q32,h.timer,h.tim0,h.tries,h.came,h.down⟩
theorem Xnp (hc:c.ok)(h:St.ok c s):St.ok c (Jd c s):=by
 unfold Jd;split
 ·exact h
 ·rename_i h0
  have hst:s.state≠0∧s.state≠4:=⟨fun e=>h0 (h.tim0 (.inl e)),fun e=>h0 (h.tim0 (.inr e))⟩;split
  ·unfold Zd;split
   ·exact Xaq (s:={s with timer:=0}) hc ⟨h.state,h.vs,h.va,h.vr,h.vm,h.svs,h.svm,h.vmw,h.q20,h.q32,Nat.zero_le _,fun _=>rfl,h.tries,h.came,h.down⟩ _
   ·rename_i ht
    have ht':s.tries+1≤c.tri:=by have:=h.tries;simp only at ht;omega
    have hh:St.ok c {s with tries:=s.tries+1,timer:=c.tim}:=⟨h.state,h.vs,h.va,h.vr,h.vm,h.svs,h.svm,h.vmw,h.q20,h.q32,Nat.le_refl _,fun hh=>by simp only at hh;omega,ht',h.came,h.down⟩;split
    ·exact XcK _ hh
    ·split
     ·exact XcK _ hh
     ·split
      ·rename_i h2
       exact XcK _ ⟨h.state,h.vs,h.va,h.vr,h.vm,h.svs,h.svm,h.vmw,h.q20,h.q32,Nat.le_refl _,fun hh=>by simp only at hh;omega,ht',h.came,fun hh=>absurd h2 hh⟩
      ·exact hh
  ·exact ⟨h.state,h.vs,h.va,h.vr,h.vm,h.svs,h.svm,h.vmw,h.q20,h.q32,by show s.timer-1≤_;have:=h.timer;omega,fun hh=>by simp only at hh;omega,h.tries,h.came,h.down⟩
end
end Go.Proofs.YtkalonhalhdlaaaGreatDoor
namespace Go.Proofs.YtkalonhalhdlaaaGreatDoor
open Go.RowKit
def Ctl (w:World):Prop:=∀i,i<10→w.cell? ⟨0,i,none⟩=some (.int .u8 (Xa5.getD i 0:Nat))
theorem Ctl.below {w w':World}{B:Nat}(h:Ctl w)(hb:Below B w w')(hB:0<B):Ctl w':=
 fun i hi=>by rw[hb.cell (p:=⟨0,i,none⟩) hB];exact h i hi
theorem Y8 (m:Int)(w:World):Calls Tryz.prog 71 #[.int .i64 m] w fun e w'=>e=.returned (.bool (XP m))∧w'=w:=by
 by_cases h1:m=8
 ·subst h1;go_enter Tryz.func71,Tryz.ntmps71
  go_wp2
  go_ret
  exact⟨rfl,rfl⟩
 ·by_cases h2:m=128
  ·subst h2;go_enter Tryz.func71,Tryz.ntmps71
   go_wp2
   go_ret
   exact⟨rfl,rfl⟩
  ·go_enter Tryz.func71,Tryz.ntmps71
   go_wp2
   go_ret
   exact⟨Xr (by simp[XP,h1,h2]),rfl⟩
theorem ZG (m:Int)(w:World):Calls Tryz.prog 74 #[.int .i64 m] w fun e w'=>e=.returned (.bool (XL m))∧w'=w:=by
 by_cases h1:m=1
 ·subst h1;go_enter Tryz.func74,Tryz.ntmps74
  go_wp2
  go_ret
  exact⟨rfl,rfl⟩
 ·by_cases h2:m=3
  ·subst h2;go_enter Tryz.func74,Tryz.ntmps74
   go_wp2
   go_ret
   exact⟨rfl,rfl⟩
  ·go_enter Tryz.func74,Tryz.ntmps74
   go_wp2
   go_ret
   exact⟨Xr (by simp[XL,h1,h2]),rfl⟩
theorem XaG (k:Int)(w:World):Calls Tryz.prog 72 #[.int .i64 k] w fun e w'=>e=.returned (.bool (Zt k))∧w'=w:=by
 by_cases h1:1≤k
 ·by_cases h2:k≤9
  ·go_enter Tryz.func72,Tryz.ntmps72
   go_wp2
   go_ret
   exact⟨Xr (by simp[Zt,h1,h2]),rfl⟩
  ·go_enter Tryz.func72,Tryz.ntmps72
   go_wp2
   go_ret
   exact⟨Xr (by simp[Zt,h1,h2]),rfl⟩
 ·go_enter Tryz.func72,Tryz.ntmps72
  go_wp2
  go_ret
  exact⟨Xr (by simp[Zt];omega),rfl⟩
theorem ZR (k:Int)(w:World):Calls Tryz.prog 111 #[.int .i64 k] w fun e w'=>e=.returned (.bool (X9 k))∧w'=w:=by
 by_cases h1:k=1
 ·subst h1;go_enter Tryz.func111,Tryz.ntmps111
  go_wp2
  go_ret
  exact⟨rfl,rfl⟩
 ·go_enter Tryz.func111,Tryz.ntmps111
  go_wp2
  go_ret
  exact⟨Xr (by simp[X9,h1]),rfl⟩
theorem ZB (k:Int)(w:World):Calls Tryz.prog 112 #[.int .i64 k] w fun e w'=>e=.returned (.bool (XJ k))∧w'=w:=by
 by_cases h1:1≤k
 ·by_cases h2:k≤4
  ·go_enter Tryz.func112,Tryz.ntmps112
   go_wp2
   go_ret
   exact⟨Xr (by simp[XJ,h1,h2]),rfl⟩
  ·go_enter Tryz.func112,Tryz.ntmps112
   go_wp2
   go_ret
   exact⟨Xr (by simp[XJ,h1,h2]),rfl⟩
 ·go_enter Tryz.func112,Tryz.ntmps112
  go_wp2
  go_ret
  exact⟨Xr (by simp[XJ];omega),rfl⟩
theorem Xbu (m n:Int)(has:Bool)(w:World):Calls Tryz.prog 110 #[.int .i64 m,.int .i64 n,.bool has] w fun e w'=>e=.returned (.bool (XX m n has))∧w'=w:=by
 cases has
 ·go_enter Tryz.func110,Tryz.ntmps110
  go_wp2
  go_ret
  exact⟨Xr (by by_cases h:n=0 <;> simp[XX,h]),rfl⟩
 ·by_cases h1:0≤n
  ·go_enter Tryz.func110,Tryz.ntmps110
   go_wp2
   go_ret
   exact⟨Xr (by simp[XX,h1]),rfl⟩
  ·go_enter Tryz.func110,Tryz.ntmps110
   go_wp2
   go_ret
   exact⟨Xr (by simp[XX];omega),rfl⟩
theorem Xbh (m:Int)(w:World):Calls Tryz.prog 113 #[.int .i64 m] w fun e w'=>e=.returned (.int .i64 (JE m))∧w'=w:=by
 by_cases h1:m=8
 ·subst h1;go_enter Tryz.func113,Tryz.ntmps113
  go_wp2
  go_ret
  exact⟨rfl,rfl⟩
 ·go_enter Tryz.func113,Tryz.ntmps113
  go_wp2
  go_ret
  exact⟨YI (by unfold JE;rw[if_neg h1]),rfl⟩
theorem QY (m k n:Int)(w:World):Calls Tryz.prog 75 #[.int .i64 m,.int .i64 k,.int .i64 n] w fun e w'=>e=.returned (.bool (Yc m k n))∧w'=w:=by
 by_cases h1:k=1
 ·subst h1;go_enter Tryz.func75,Tryz.ntmps75
  go_wp2
  go_ret
  exact⟨Xr (by simp[Yc]),rfl⟩
 ·by_cases h9:k=9
  ·subst h9;go_enter Tryz.func75,Tryz.ntmps75
   go_wp2_with fail
   refine(Xbh m w).mono ?_;rintro e W1 ⟨rfl,rfl⟩;go_wp2
   go_ret
   exact⟨Xr (by unfold Yc;rw[if_neg (by omega),if_pos rfl]),rfl⟩
  ·go_enter Tryz.func75,Tryz.ntmps75
   go_wp2
   go_ret
   exact⟨Xr (by unfold Yc;rw[if_neg h1,if_neg h9]),rfl⟩
theorem XeQ (p:Bool)(n:Nat)(w:World):Calls Tryz.prog 116 #[.bool p,.int .u8 n] w fun e w'=>e=.returned (.int .u8 (X3 p n:Nat))∧w'=w:=by
 cases p
 ·go_enter Tryz.func116,Tryz.ntmps116
  go_wp2
  go_ret
  exact⟨rfl,rfl⟩
 ·go_enter Tryz.func116,Tryz.ntmps116
  go_wp2
  go_ret
  exact⟨rfl,rfl⟩
theorem ZX (m k:Nat)(hk:1≤k)(w:World):Calls Tryz.prog 84 #[.int .i64 m,.int .i64 k] w fun e w'=>e=.returned (.int .i64 (cbN m k:Nat))∧w'=w:=by
 by_cases h1:m=128
 ·subst h1;by_cases h2:k≤4
  ·have hr:XJ k=true:=by simp[XJ];omega
   go_enter Tryz.func84,Tryz.ntmps84
   go_wp2_with fail
   refine(ZB k w).mono ?_;rintro e W1 ⟨rfl,rfl⟩;rw[hr];go_wp2
   go_ret
   exact⟨YI (by simp[cbN,wide,h2]),rfl⟩
  ·have hr:XJ k=false:=by simp[XJ];omega
   go_enter Tryz.func84,Tryz.ntmps84
   go_wp2_with fail
   refine(ZB k w).mono ?_;rintro e W1 ⟨rfl,rfl⟩;rw[hr];go_wp2
   go_ret
   exact⟨YI (by simp[cbN,wide,h2]),rfl⟩
 ·have h1':¬(m:Int)=128:=by omega
  go_enter Tryz.func84,Tryz.ntmps84
  go_wp2
  go_ret
  exact⟨YI (by simp[cbN,wide,h1]),rfl⟩
theorem XgI (m k:Nat)(hk:1≤k)(w:World):Calls Tryz.prog 117 #[.int .i64 m,.int .i64 k] w fun e w'=>e=.returned (.int .u8 (maskN m k:Nat))∧w'=w:=by
 by_cases h1:k=1
 ·subst h1;go_enter Tryz.func117,Tryz.ntmps117
  go_wp2_with fail
  refine(ZR _ w).mono ?_;rintro e W1 ⟨rfl,rfl⟩;rw[show X9 1=true from rfl];go_wp2
  go_ret
  exact⟨rfl,rfl⟩
 ·have hs:X9 k=false:=by simp[X9];omega
  by_cases h4:4<k
  ·have hr:XJ k=false:=by simp[XJ];omega
   go_enter Tryz.func117,Tryz.ntmps117
   go_wp2_with fail
   refine(ZR _ w).mono ?_;rintro e W1 ⟨rfl,rfl⟩;rw[hs];go_wp2_with fail
   refine(ZB _ W1).mono ?_;rintro e W2 ⟨rfl,rfl⟩;rw[hr];go_wp2
   go_ret
   exact⟨YI (by simp[maskN,h1,h4]),rfl⟩
  ·have hr:XJ k=true:=by simp[XJ];omega
   by_cases h8:m=8
   ·subst h8;go_enter Tryz.func117,Tryz.ntmps117
    go_wp2_with fail
    refine(ZR _ w).mono ?_;rintro e W1 ⟨rfl,rfl⟩;rw[hs];go_wp2_with fail
    refine(ZB _ W1).mono ?_;rintro e W2 ⟨rfl,rfl⟩;rw[hr];go_wp2
    go_ret
    exact⟨YI (by simp[maskN,h1,h4]),rfl⟩
   ·have h8':¬(m:Int)=8:=by omega
    go_enter Tryz.func117,Tryz.ntmps117
    go_wp2_with fail
    refine(ZR _ w).mono ?_;rintro e W1 ⟨rfl,rfl⟩;rw[hs];go_wp2_with fail
    refine(ZB _ W1).mono ?_;rintro e W2 ⟨rfl,rfl⟩;rw[hr];go_wp2
    go_ret
    exact⟨YI (by simp[maskN,h1,h4,h8]),rfl⟩
theorem XaX (m k:Nat)(hk:k≤9)(w:World)(hC:Ctl w):Calls Tryz.prog 115 #[.int .i64 m,.int .i64 k] w fun e w'=>e=.returned (.int .u8 (Xv m k:Nat))∧w'=w:=by
 by_cases h5:k=5
 ·subst h5;by_cases h1:m=128
  ·subst h1;go_enter Tryz.func115,Tryz.ntmps115
   go_wp2
   go_ret
   exact⟨rfl,rfl⟩
  ·have h1':¬(m:Int)=128:=by omega
   have hc:=hC 5 (by omega);go_enter Tryz.func115,Tryz.ntmps115
   go_wp2
   go_ret
   exact⟨YI (by simp[Xv,h1]),rfl⟩
 ·have h5':¬(k:Int)=5:=by omega
  have hc:=hC k (by omega);go_enter Tryz.func115,Tryz.ntmps115
  go_wp2
  go_ret
  exact⟨YI (by simp[Xv,h5]),rfl⟩
theorem Xm {w:World}{F j:Nat}{cs:Array Value}{t:TypeId}{fz:Nat×Nat}(h:w.heap[F]?=some (.cells cs t fz))(v:Value):(w.setCell ⟨F,j,none⟩ v).heap[F]?=some (.cells (cs.setIfInBounds j v) t fz):=by
 skip
 simp[World.setCell,Array.getElem?_modify,h]
theorem Xc7 (w:World)(o p:Obj):((w.alloc o).alloc p).heap.size=w.heap.size+2:=by rw[Xk,Xk]
end Go.Proofs.YtkalonhalhdlaaaGreatDoor
