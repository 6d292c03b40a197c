import Derived.Test.YtkpnmpjnpcjohaaGreatRows
import Derived.WalkKit
import Derived.ProofKit
import Derived.Below
import Derived.IntWalk
import Derived.Lib.Hide
import Derived.OpenShut
import Derived.RegionTactic
import Derived.Deep.QuietTactic
import Derived.BigQuiet
import Derived.Laws.CopyOwn
import Derived.Laws.MakeOwn
import Derived.OwnWalk
import Derived.Maps.AppendAt
import Derived.Deep.AppendLies
set_option maxRecDepth 100000
namespace Go.Proofs.YtkpnmpjnpcjohaaGreat
namespace Mem
open ChangeShapes WideShapes ChangeAt RowKit
def Reads(w:World)(B:Nat)(A:Option Addr)(n:Nat)(vs:List Value):Prop:=
 vs.length=n∧n≤maxLen∧(0<n→∃b off,A=some ⟨b,off,none⟩∧b<B∧∀j u,vs[j]?=some u→w.cell? ⟨b,off+j,none⟩=some u)
theorem b_n(b off j:Nat):(Addr.mk b off none).add j=⟨b,off+j,none⟩:=by
 by_cases h0:j=0
 ·subst h0;simp[Addr.add]
 ·simp[Addr.add,h0]
section
variable {w w' : World} {B B' n : Nat} {A : Option Addr} {vs : List Value}
theorem Reads.le(h:Reads w B A n vs):n≤9223372036854775807:=by have:=h.2.1;unfold maxLen at this;omega
theorem Reads.none_:Reads w B A 0 []:=⟨rfl,Nat.zero_le _,fun h=>absurd h (by omega)⟩
theorem Reads.at_{k:Nat}(h:Reads w B A n vs)(hk:k<n):
 ∃b off u,A=some ⟨b,off,none⟩∧vs[k]?=some u∧w.cell? ⟨b,off+k,none⟩=some u∧b<B∧vs.drop k=u::vs.drop (k+1):=by
 obtain⟨hl,_,hc⟩:=h;obtain⟨b,off,e,hb,hc⟩:=hc (by omega);have hlt:k<vs.length:=by omega
 have hu:=List.getElem?_eq_getElem hlt;exact⟨b,off,vs[k],e,hu,hc k _ hu,hb,List.drop_eq_getElem_cons hlt⟩
theorem Reads.same(h:Reads w B A n vs)(hk:∀p:Addr,p.block<B→w'.cell? p=w.cell? p):Reads w' B A n vs:=by
 obtain⟨h1,h2,h3⟩:=h;refine⟨h1,h2,fun hn=>?_⟩;obtain⟨b,off,e,hlt,hc⟩:=h3 hn;exact⟨b,off,e,hlt,fun j u hu=>(hk ⟨b,off+j,none⟩ hlt).trans (hc j u hu)⟩
theorem Reads.keep(h:Reads w B A n vs)(hb:Below B w w'):Reads w' B A n vs:=h.same fun _ hp=>hb.cell hp
theorem Reads.more(h:Reads w B A n vs)(hB:B≤B'):Reads w B' A n vs:=by
 obtain⟨h1,h2,h3⟩:=h;refine⟨h1,h2,fun hn=>?_⟩;obtain⟨b,off,e,hlt,hc⟩:=h3 hn;exact⟨b,off,e,by omega,hc⟩
theorem Reads.alloc(h:Reads w B A n vs)(hB:B≤w.heap.size)(o:Obj):Reads (w.alloc o) B A n vs:=h.same fun p hp=>World.cell?_alloc_lt w o p (by omega)
end
def Blk(w:World)(g:Nat)(t:TypeId)(vs:List Value):Prop:=w.heap[g]?=some (.cells vs.toArray t (0,0))
section
variable {w w' : World} {g : Nat} {t : TypeId} {vs : List Value}
theorem Blk.lt(h:Blk w g t vs):g<w.heap.size:=by
 rcases Nat.lt_or_ge g w.heap.size with hlt|hge
 ·exact hlt
 ·unfold Blk at h;rw[Array.getElem?_eq_none hge]at h;cases h
theorem Blk.cell(h:Blk w g t vs){i:Nat}{u:Value}(hu:vs[i]?=some u):w.cell? ⟨g,i,none⟩=some u:=by
 have:=cell_of_row w g i vs.toArray t (0,0) h;rw[this];simpa using hu
theorem Blk.free(h:Blk w g t vs)(i:Nat):w.frozen? ⟨g,i,none⟩=false:=by
 unfold Blk at h;simp[World.frozen?,h]
theorem Blk.put(h:Blk w g t vs)(i:Nat)(u:Value):Blk (w.setCell ⟨g,i,none⟩ u) g t (vs.set i u):=by
 unfold Blk at h ⊢;simp[World.setCell,Array.getElem?_modify,h]
theorem Blk.below{B:Nat}(h:Blk w g t vs)(hb:Below B w w')(hg:g<B):Blk w' g t vs:=(hb.block g hg).trans h
theorem Blk.new(w:World)(t:TypeId)(vs:List Value):Blk (w.alloc (.cells vs.toArray t)) w.heap.size t vs:=heap_alloc_new w _
theorem Blk.reads(h:Blk w g t vs){n:Nat}(hn:n≤vs.length)(hm:n≤maxLen):Reads w w.heap.size (some ⟨g,0,none⟩) n (vs.take n):=by
 refine⟨by rw[List.length_take];omega,hm,fun _=>⟨g,0,rfl,h.lt,fun j u hu=>?_⟩⟩;rw[List.getElem?_take]at hu;rw[Nat.zero_add];split at hu
 ·exact h.cell hu
 ·cases hu
end
theorem a_j{a b:Bool}(h:a=b):Ending.returned (.bool a)=.returned (.bool b):=by rw[h]
theorem a_5{k:IntKind}{a b:Int}(h:a=b):Ending.returned (.int k a)=.returned (.int k b):=by rw[h]
def d_t(w:World)(v:Value)(e:Ending)(w':World):Prop:=e=.returned v∧∃d,w'=w.drewN d
end Mem
namespace Mem
open ChangeShapes WideShapes ChangeAt RowKit
def Own(w:World)(base:Nat)(e:TypeId)(v:Value)(n:Nat)(vs:List Value):Prop:=w.ownsRow base e 1 v n vs∧n≤maxLen
def s_E(w:World)(e:TypeId)(n:Nat)(vs:List Value)(en:Ending)(w':World):Prop:=∃v,en=.returned v∧Below w.heap.size w w'∧Own w' w.heap.size e v n vs
section
variable {w w' : World} {base n : Nat} {e : TypeId} {v : Value} {vs : List Value}
theorem Own.read(h:Own w base e v n vs):∃A c,v=.slice A n c∧n≤c∧Reads w w.heap.size A n vs:=by
 obtain⟨⟨hl,h⟩,hm⟩:=h;have hl':vs.length=n:=by omega
 rcases h with⟨rfl,rfl⟩|⟨g,cap,cur,rfl,hg,hh,hnc,hcm,hcs,htk⟩
 ·exact⟨none,0,rfl,Nat.le_refl _,hl',hm,fun h=>absurd h (by omega)⟩
 ·refine⟨_,_,rfl,hnc,hl',hm,fun hp=>⟨g,0,rfl,?_,fun j u hu=>?_⟩⟩
  ·rcases Nat.lt_or_ge g w.heap.size with hlt|hge
   ·exact hlt
   ·rw[Array.getElem?_eq_none hge]at hh;cases hh
  ·have e':=cell_of_row w g (0+j) cur e (0,0) hh
   rw[e',Nat.zero_add];rw[← htk,List.getElem?_take]at hu;split at hu
   ·simpa using hu
   ·cases hu
theorem Own.new(w:World)(base:Nat)(e:TypeId)(vs:List Value)(hb:base≤w.heap.size)(hm:vs.length≤maxLen):Own (w.alloc (.cells vs.toArray e)) base e (.slice (some ⟨w.heap.size,0,none⟩) vs.length vs.length) vs.length vs:=
 ⟨⟨by omega,.inr ⟨w.heap.size,vs.length,vs.toArray,rfl,hb,heap_alloc_new w _,Nat.le_refl _,hm,by simp,by simp⟩⟩,hm⟩
theorem Own.lower{b':Nat}(h:Own w base e v n vs)(hb:b'≤base):Own w b' e v n vs:=by
 obtain⟨⟨hl,h⟩,hm⟩:=h;refine⟨⟨hl,?_⟩,hm⟩;rcases h with h|⟨g,cap,cur,rfl,hg,hr⟩
 ·exact .inl h
 ·exact .inr ⟨g,cap,cur,rfl,by omega,hr⟩
theorem Own.same(h:Own w base e v n vs)(hk:∀g,base≤g→g<w.heap.size→w'.heap[g]?=w.heap[g]?):Own w' base e v n vs:=by
 obtain⟨⟨hl,h⟩,hm⟩:=h;refine⟨⟨hl,?_⟩,hm⟩;rcases h with h|⟨g,cap,cur,rfl,hg,hh,hr⟩
 ·exact .inl h
 ·have hlt:g<w.heap.size:=by
   rcases Nat.lt_or_ge g w.heap.size with hlt|hge
   ·exact hlt
   ·rw[Array.getElem?_eq_none hge]at hh;cases hh
  exact .inr ⟨g,cap,cur,rfl,hg,(hk g hg hlt).trans hh,hr⟩
end
theorem i_V{w:World}{base:Nat}{e t:TypeId}{z:Value}{bytes:Nat}{v:Value}{n:Nat}{xs:List Value}(ty:TypeId)(ht:Tryz.prog.underlying t=some (.slice e))
 (hi0:(Tryz.prog.info? e).map (fun i=>(i.zero,i.size,i.bytes))=some (some z,1,bytes)) (hzc:z.cells.size=1)
 (h:Own w base e v n xs) {B:Nat} {A:Option Addr} {m:Nat} (c:Nat) {ys:List Value} (hy:Reads w B A m ys) (h1:∀u∈ys,u.oneCell'=true)
 (hmx:n+m≤maxLen) (hb:(n+m)*bytes≤140737488355328) (hbase:base≤w.heap.size):
 ∃v' w',(Builtin.append_ #[t,t] ty #[v,.slice A m c]).run Tryz.prog w=.ok v' w'∧Own w' base e v' (n+m) (xs++ys)∧w.grownBy w' v.ownBlock∧(v'.ownBlock=v.ownBlock∨v'.ownBlock=some w.heap.size):=by
 obtain⟨hown,hm⟩:=h;obtain⟨i,hi,hz0,hz1,hz2⟩:=info_parts hi0;rcases A with _|ad
 ·have hm0:m=0:=by
   rcases Nat.eq_zero_or_pos m with h0|h0
   ·exact h0
   ·obtain⟨_,_,h,_⟩:=hy.2.2 h0
    cases h
  subst hm0;have hn:ys=[]:=List.eq_nil_of_length_eq_zero hy.1;subst hn;refine⟨v,w,?_,⟨by simpa using hown,hm⟩,World.grownBy.refl w _,.inl rfl⟩;rcases hown.2 with⟨rfl,rfl⟩|⟨g,cap,cur,rfl,_,_,hnc,_⟩
  ·simp[Builtin.append_,run_underlying ht,sizeOf,typeInfo,hi,Builtin.lenOf,Builtin.firstCells]
  ·simp[Builtin.append_,run_underlying ht,sizeOf,typeInfo,hi,Builtin.lenOf,Builtin.firstCells,hnc,storeCells]
 ·have hcells:∀j u,ys[j]?=some u→w.cell? (ad.add j)=some u:=by
   intro j u hu;rcases Nat.eq_zero_or_pos m with h0|h0
   ·subst h0
    have hn:ys=[]:=List.eq_nil_of_length_eq_zero hy.1;subst hn;simp at hu
   ·obtain⟨b,off,h,_,hc⟩:=hy.2.2 h0
    injection h with h;subst h;rw[b_n];exact hc j u hu
  obtain⟨v',w',hrun,h2,h3,_,h5⟩:=run_append_own_at (P:=Tryz.prog) w base t ty e i z 1 bytes ht hi hz0 hz1 hz2 hzc (by decide) v n xs hown ad m c ys (by rw[hy.1,Nat.mul_one]) hcells h1 hmx hb hbase;exact⟨v',w',hrun,⟨h2,hmx⟩,h3,h5⟩
theorem k_E{w:World}{o:Oper}{a:Act}{K:Act→World→Prop}{Q:Exit→Act→World→Prop}(s x:Operand){e t:TypeId}{z:Value}{bytes:Nat}
 (ht:Tryz.prog.underlying t=some (.slice e)) (hi0:(Tryz.prog.info? e).map (fun i=>(i.zero,i.size,i.bytes))=some (some z,1,bytes)) (hzc:z.cells.size=1)
 (ho:o.op=.call {callee:=.builtin .append,args:=#[s,x],argTypes:=#[t,t] })
 {base:Nat} {v:Value} {n:Nat} {xs:List Value} (hs:a.eval s=v) (hown:Own w base e v n xs) {B:Nat} {A:Option Addr} {m c:Nat} {ys:List Value} (hx:a.eval x=.slice A m c) (hy:Reads w B A m ys) (h1:∀u∈ys,u.oneCell'=true)
 (hmx:n+m≤maxLen) (hb:(n+m)*bytes≤140737488355328) (hbase:base≤w.heap.size)
 (h:∀v' w',Hid (Own w' base e v' (n+m) (xs++ys))→Hid (w.grownBy w' v.ownBlock)→Hid (v'.ownBlock=v.ownBlock∨v'.ownBlock=some w.heap.size)→K (a.put o.dst v') w'):o.wp Tryz.prog a w K Q:=by
 obtain⟨v',w',hrun,h2,h3,h4⟩:=i_V o.type ht hi0 hzc hown c hy h1 hmx hb hbase;unfold Oper.wp execOp;simp only[ho,resolve,invoke,builtin,Sem.run_bind,Sem.run_pure,Result.andThen_ok,List.map_toArray,List.map_cons,List.map_nil,hs,hx,hrun];exact h v' w' h2 h3 h4
theorem f_2{w:World}{ops:Array Oper}{rest:List Oper}{o:Oper}{a:Act}{Q:Exit→Act→World→Prop}(hgd:o.guard=none)(s x:Operand){e t:TypeId}{z:Value}{bytes:Nat}
 (ht:Tryz.prog.underlying t=some (.slice e)) (hi0:(Tryz.prog.info? e).map (fun i=>(i.zero,i.size,i.bytes))=some (some z,1,bytes)) (hzc:z.cells.size=1)
 (ho:o.op=.call {callee:=.builtin .append,args:=#[s,x],argTypes:=#[t,t] })
 {base:Nat} {v:Value} {n:Nat} {xs:List Value} (hs:a.eval s=v) (hown:Own w base e v n xs) {B:Nat} {A:Option Addr} {m c:Nat} {ys:List Value} (hx:a.eval x=.slice A m c) (hy:Reads w B A m ys) (h1:∀u∈ys,u.oneCell'=true)
 (hmx:n+m≤maxLen) (hb:(n+m)*bytes≤140737488355328) (hbase:base≤w.heap.size)
 (h:∀v' w',Hid (Own w' base e v' (n+m) (xs++ys))→Hid (w.grownBy w' v.ownBlock)→Hid (v'.ownBlock=v.ownBlock∨v'.ownBlock=some w.heap.size)→wpList Tryz.prog ops Q rest (a.put o.dst v') w'):wpList Tryz.prog ops Q (o::rest) a w:=
 wpList_plain hgd fun _ hK=>k_E s x ht hi0 hzc ho hs hown hx hy h1 hmx hb hbase fun v' w' h2 h3 h4=>hK _ _ (h v' w' h2 h3 h4)
theorem Own.below{B:Nat}{a w w':World}{base:Nat}{e:TypeId}{v:Value}{n:Nat}{xs:List Value}(hb:Below B a w)(h:Own w base e v n xs)(hg:w.grownBy w' v.ownBlock)(hB:B≤w.heap.size)(hB':B≤base):Below B a w':=by
 refine hb.grown hg hB fun k hk=>?_;rcases h.1.2 with⟨rfl,_⟩|⟨g,cap,cur,rfl,hg',_⟩
 ·cases hk
 ·have:g=k:=by simpa[Value.ownBlock]using hk
  omega
theorem d_u{w:World}{ops:Array Oper}{rest:List Oper}{o:Oper}{a:Act}{Q:Exit→Act→World→Prop}(hgd:o.guard=none)(s x:Operand){e t:TypeId}{z:Value}{bytes:Nat}
 (ht:Tryz.prog.underlying t=some (.slice e)) (hi0:(Tryz.prog.info? e).map (fun i=>(i.zero,i.size,i.bytes))=some (some z,1,bytes)) (hzc:z.cells.size=1)
 (ho:o.op=.call {callee:=.builtin .append,args:=#[s,x],argTypes:=#[t,t] })
 {base:Nat} {v:Value} {n:Nat} {xs:List Value} (hown:Own w base e v n xs) (hs:a.eval s=v) {B:Nat} {A:Option Addr} {m c:Nat} {ys:List Value} (hy:Reads w B A m ys) (hx:a.eval x=.slice A m c) (h1:∀u∈ys,u.oneCell'=true)
 (hmx:n+m≤maxLen) (hb:(n+m)*bytes≤140737488355328) {w0:World} {B0:Nat} (hbel:Below B0 w0 w) (hB0:B0≤w.heap.size) (hbase:base≤w.heap.size) (hB1:B0≤base)
 (h:∀v' w',Hid (Own w' base e v' (n+m) (xs++ys))→Below B0 w0 w'→w.heap.size≤w'.heap.size→Hid (w.grownBy w' v.ownBlock)→wpList Tryz.prog ops Q rest (a.put o.dst v') w'):wpList Tryz.prog ops Q (o::rest) a w:=
 f_2 hgd s x ht hi0 hzc ho hs hown hx hy h1 hmx hb hbase fun v' w' h2 h3 _=>h v' w' h2 (hown.below hbel h3.out hB0 hB1) h3.out.size h3
theorem Own.alloc{w:World}{base n:Nat}{e:TypeId}{v:Value}{vs:List Value}(h:Own w base e v n vs)(o:Obj):Own (w.alloc o) base e v n vs:=h.same fun g _ hg=>Below.heap_alloc w o g hg
theorem a_l{B:Nat}{a w:World}(h:Below B a w)(d:Nat):Below B a (w.drewN d):=⟨h.os,h.tape,h.output,h.size,h.block⟩
end Mem
namespace Mem
open ChangeShapes WideShapes ChangeAt RowKit
def b_l(xs:List Int):List Value:=xs.map fun b=>.int .i64 b
abbrev Ints(w:World)(B:Nat)(A:Option Addr)(n:Nat)(xs:List Int):Prop:=Reads w B A n (b_l xs)
theorem f_3(xs:List Int):(b_l xs).length=xs.length:=by simp[b_l]
theorem o_0{xs:List Int}{j:Nat}{v:Value}(h:(b_l xs)[j]?=some v):∃u,xs[j]?=some u∧v=.int .i64 u:=by
 simp only[b_l,List.getElem?_map,Option.map_eq_some_iff]at h;obtain⟨u,hu,rfl⟩:=h;exact⟨u,hu,rfl⟩
theorem m_V(xs:List Int)(k:Nat):b_l (xs.take k)=(b_l xs).take k:=by simp[b_l]
theorem o_1(xs:List Int)(k:Nat)(u:Int):(b_l xs).set k (.int .i64 u)=b_l (xs.set k u):=by simp[b_l]
theorem i_W(xs:List Int):∀v∈b_l xs,v.oneCell'=true:=by
 intro v hv;simp only[b_l,List.mem_map]at hv;obtain⟨x,_,rfl⟩:=hv;rfl
section
variable {w : World} {B n : Nat} {A : Option Addr} {xs : List Int}
theorem Ints.length(h:Ints w B A n xs):xs.length=n:=by have:=h.1;rwa[f_3]at this
theorem Ints.at_{k:Nat}(h:Ints w B A n xs)(hk:k<n):
 ∃b off u,A=some ⟨b,off,none⟩∧xs[k]?=some u∧w.cell? ⟨b,off+k,none⟩=some (.int .i64 u)∧b<B∧xs.drop k=u::xs.drop (k+1):=by
 obtain⟨b,off,v,e,hv,hc,hb,_⟩:=Reads.at_ h hk;obtain⟨u,hu,rfl⟩:=o_0 hv;have hlt:k<xs.length:=by have:=h.length;omega
 refine⟨b,off,u,e,hu,hc,hb,?_⟩;rw[List.drop_eq_getElem_cons hlt];rw[List.getElem?_eq_getElem hlt]at hu;injection hu with hu;rw[hu]
end
theorem o_2:(Tryz.prog.info? 3).map (fun i=>(i.zero,i.size,i.bytes))=some (some (.int .i64 0),1,8):=by kernel_rfl
theorem Own.row{w:World}{base n:Nat}{e:TypeId}{v:Value}{vs:List Value}(h:Own w base e v n vs)(hn:0<n):∃g cap,v=.slice (some ⟨g,0,none⟩) n cap∧base≤g∧n≤cap:=by
 rcases h.1.2 with⟨_,rfl⟩|⟨g,cap,cur,rfl,hg,_,hnc,_⟩
 ·omega
 ·exact⟨g,cap,rfl,hg,hnc⟩
theorem Own.at_{w:World}{base n g cap k:Nat}{e:TypeId}{vs:List Value}(h:Own w base e (.slice (some ⟨g,0,none⟩) n cap) n vs)(hk:k<n):
 ∃u,vs[k]?=some u∧w.cell? ⟨g,k,none⟩=some u∧w.frozen? ⟨g,k,none⟩=false∧∀x,Own (w.setCell ⟨g,k,none⟩ x) base e (.slice (some ⟨g,0,none⟩) n cap) n (vs.set k x):=by
 obtain⟨⟨hl,h⟩,hm⟩:=h;have hl':vs.length=n:=by omega
 rcases h with⟨h,_⟩|⟨g',cap',cur,h,hg,hh,hnc,hcm,hcs,htk⟩
 ·cases h
 ·injection h with h1 h2 h3
  injection h1 with h1;injection h1 with h1;subst h1;subst h3;obtain⟨u,hx⟩:∃u,vs[k]?=some u:=⟨_,List.getElem?_eq_getElem (by omega)⟩;have htk':cur.toList.take n=vs:=by rw[← htk,Nat.mul_one]
  refine⟨u,hx,?_,by simp[World.frozen?,hh],fun x=>⟨⟨?_,.inr ⟨g,cap,cur.setIfInBounds k x,rfl,hg,?_,hnc,hcm,?_,?_⟩⟩,hm⟩⟩
  ·rw[cell_of_row w g k cur e (0,0) hh]
   have hx':=hx;rw[← htk',List.getElem?_take,if_pos hk]at hx';simpa using hx'
  ·rw[List.length_set];exact hl
  ·simp[World.setCell,Array.getElem?_modify,hh]
  ·simpa using hcs
  ·rw[Nat.mul_one,←htk',Array.toList_setIfInBounds,List.take_set]
theorem Own.reads{w:World}{base n c:Nat}{e:TypeId}{A:Option Addr}{vs:List Value}(h:Own w base e (.slice A n c) n vs):Reads w w.heap.size A n vs:=by
 obtain⟨A',c',e',_,hr⟩:=h.read;injection e' with e1;subst e1;exact hr
theorem Own.range{w:World}{base n:Nat}{e:TypeId}{v:Value}{vs:List Value}(h:Own w base e v n vs):∀g,v.ownBlock=some g→base≤g∧g<w.heap.size:=h.1.lt
end Mem
namespace MemI
end MemI
namespace Mem
open ChangeShapes WideShapes ChangeAt RowKit
def Recs(w:World)(B:Nat)(A:Option Addr)(n k:Nat)(vs:List Value):Prop:=
 vs.length=n*k∧n≤maxLen∧(0<n→∃b off,A=some ⟨b,off,none⟩∧b<B∧∀j u,vs[j]?=some u→w.cell? ⟨b,off+j,none⟩=some u)
section
variable {w w' : World} {B B' n k : Nat} {A : Option Addr} {vs : List Value}
theorem Recs.le(h:Recs w B A n k vs):n≤9223372036854775807:=by have:=h.2.1;unfold maxLen at this;omega
theorem Recs.none_:Recs w B A 0 k []:=⟨by simp,Nat.zero_le _,fun h=>absurd h (by omega)⟩
theorem Recs.same(h:Recs w B A n k vs)(hk:∀p:Addr,p.block<B→w'.cell? p=w.cell? p):Recs w' B A n k vs:=by
 obtain⟨h1,h2,h3⟩:=h;refine⟨h1,h2,fun hn=>?_⟩;obtain⟨b,off,e,hlt,hc⟩:=h3 hn;exact⟨b,off,e,hlt,fun j u hu=>(hk ⟨b,off+j,none⟩ hlt).trans (hc j u hu)⟩
theorem Recs.keep(h:Recs w B A n k vs)(hb:Below B w w'):Recs w' B A n k vs:=h.same fun _ hp=>hb.cell hp
theorem Recs.more(h:Recs w B A n k vs)(hB:B≤B'):Recs w B' A n k vs:=by
 obtain⟨h1,h2,h3⟩:=h;refine⟨h1,h2,fun hn=>?_⟩;obtain⟨b,off,e,hlt,hc⟩:=h3 hn;exact⟨b,off,e,by omega,hc⟩
theorem Recs.alloc(h:Recs w B A n k vs)(hB:B≤w.heap.size)(o:Obj):Recs (w.alloc o) B A n k vs:=h.same fun p hp=>World.cell?_alloc_lt w o p (by omega)
theorem Recs.at_{i:Nat}(h:Recs w B A n k vs)(hi:i<n):∃b off,A=some ⟨b,off,none⟩∧b<B∧∀j u,vs[i*k+j]?=some u→w.cell? ⟨b,off+i*k+j,none⟩=some u:=by
 obtain⟨b,off,e,hb,hc⟩:=h.2.2 (by omega);exact⟨b,off,e,hb,fun j u hu=>by rw[Nat.add_assoc];exact hc _ u hu⟩
end
end Mem
namespace Mem
open ChangeShapes WideShapes ChangeAt RowKit
def OwnK(w:World)(base:Nat)(e:TypeId)(k:Nat)(v:Value)(n:Nat)(vs:List Value):Prop:=w.ownsRow base e k v n vs∧n≤maxLen
def c_X(w:World)(e:TypeId)(k n:Nat)(vs:List Value)(en:Ending)(w':World):Prop:=∃v,en=.returned v∧Below w.heap.size w w'∧OwnK w' w.heap.size e k v n vs
section
variable {w w' : World} {base k n : Nat} {e : TypeId} {v : Value} {vs : List Value}
theorem OwnK.read(h:OwnK w base e k v n vs):∃A c,v=.slice A n c∧n≤c∧Recs w w.heap.size A n k vs:=by
 obtain⟨⟨hl,h⟩,hm⟩:=h;rcases h with⟨rfl,rfl⟩|⟨g,cap,cur,rfl,hg,hh,hnc,hcm,hcs,htk⟩
 ·exact⟨none,0,rfl,Nat.le_refl _,hl,hm,fun h=>absurd h (by omega)⟩
 ·refine⟨_,_,rfl,hnc,hl,hm,fun hp=>⟨g,0,rfl,?_,fun j u hu=>?_⟩⟩
  ·rcases Nat.lt_or_ge g w.heap.size with hlt|hge
   ·exact hlt
   ·rw[Array.getElem?_eq_none hge]at hh;cases hh
  ·have e':=cell_of_row w g (0+j) cur e (0,0) hh
   rw[e',Nat.zero_add];rw[← htk,List.getElem?_take]at hu;split at hu
   ·simpa using hu
   ·cases hu
theorem OwnK.nil(w:World)(base:Nat)(e:TypeId)(k:Nat):OwnK w base e k (.slice none 0 0) 0 []:=⟨⟨by simp,.inl ⟨rfl,rfl⟩⟩,Nat.zero_le _⟩
theorem OwnK.lower{b':Nat}(h:OwnK w base e k v n vs)(hb:b'≤base):OwnK w b' e k v n vs:=by
 obtain⟨⟨hl,h⟩,hm⟩:=h;refine⟨⟨hl,?_⟩,hm⟩;rcases h with h|⟨g,cap,cur,rfl,hg,hr⟩
 ·exact .inl h
 ·exact .inr ⟨g,cap,cur,rfl,by omega,hr⟩
theorem OwnK.same(h:OwnK w base e k v n vs)(hk:∀g,base≤g→g<w.heap.size→w'.heap[g]?=w.heap[g]?):OwnK w' base e k v n vs:=by
 obtain⟨⟨hl,h⟩,hm⟩:=h;refine⟨⟨hl,?_⟩,hm⟩;rcases h with h|⟨g,cap,cur,rfl,hg,hh,hr⟩
 ·exact .inl h
 ·have hlt:g<w.heap.size:=by
   rcases Nat.lt_or_ge g w.heap.size with hlt|hge
   ·exact hlt
   ·rw[Array.getElem?_eq_none hge]at hh;cases hh
  exact .inr ⟨g,cap,cur,rfl,hg,(hk g hg hlt).trans hh,hr⟩
theorem OwnK.keep{B:Nat}(h:OwnK w base e k v n vs)(hb:Below B w w')(hB:w.heap.size≤B):OwnK w' base e k v n vs:=h.same fun g _ hg=>hb.block g (by omega)
theorem OwnK.alloc(h:OwnK w base e k v n vs)(o:Obj):OwnK (w.alloc o) base e k v n vs:=h.same fun g _ hg=>Below.heap_alloc w o g hg
theorem OwnK.below{B:Nat}{a:World}(hb:Below B a w)(h:OwnK w base e k v n vs)(hg:w.grownBy w' v.ownBlock)(hB:B≤w.heap.size)(hB':B≤base):Below B a w':=by
 refine hb.grown hg hB fun q hq=>?_;rcases h.1.2 with⟨rfl,_⟩|⟨g,cap,cur,rfl,hg',_⟩
 ·cases hq
 ·have:g=q:=by simpa[Value.ownBlock]using hq
  omega
theorem OwnK.len(h:OwnK w base e k v n vs):vs.length=n*k:=h.1.1
theorem OwnK.slice(h:OwnK w base e k v n vs):∃A c,v=.slice A n c:=by
 rcases h.1.2 with⟨rfl,rfl⟩|⟨g,cap,cur,rfl,_⟩
 ·exact⟨_,_,rfl⟩
 ·exact⟨_,_,rfl⟩
end
theorem i_X{w:World}{base:Nat}{e t:TypeId}{z:Value}{bytes k:Nat}{v:Value}{n:Nat}{xs:List Value}(ty:TypeId)(ht:Tryz.prog.underlying t=some (.slice e))
 (hi0:(Tryz.prog.info? e).map (fun i=>(i.zero,i.size,i.bytes))=some (some z,k,bytes)) (hzc:z.cells.size=k) (hk:0<k)
 (h:OwnK w base e k v n xs) {g:Nat} {u:TypeId} (c:Nat) {ys:List Value} (hy:Blk w g u ys) (hyl:ys.length=k) (h1:∀u∈ys,u.oneCell'=true)
 (hmx:n+1≤maxLen) (hb:(n+1)*bytes≤140737488355328) (hbase:base≤w.heap.size):
 ∃v' w',(Builtin.append_ #[t,t] ty #[v,.slice (some ⟨g,0,none⟩) 1 c]).run Tryz.prog w=.ok v' w'∧OwnK w' base e k v' (n+1) (xs++ys)∧w.grownBy w' v.ownBlock:=by
 obtain⟨hown,hm⟩:=h;obtain⟨i,hi,hz0,hz1,hz2⟩:=info_parts hi0;obtain⟨v',w',hrun,h2,h3,_,_⟩:=run_append_own_at (P:=Tryz.prog) w base t ty e i z k bytes ht hi hz0 hz1 hz2 hzc hk v n xs hown ⟨g,0,none⟩ 1 c ys (by rw[hyl];omega) (fun j q hq=>by rw[b_n,Nat.zero_add];exact hy.cell hq) h1 hmx hb hbase;exact⟨v',w',hrun,⟨h2,hmx⟩,h3⟩
theorem k_F{w:World}{o:Oper}{a:Act}{K:Act→World→Prop}{Q:Exit→Act→World→Prop}(s x:Operand){e t:TypeId}{z:Value}{bytes k:Nat}
 (ht:Tryz.prog.underlying t=some (.slice e)) (hi0:(Tryz.prog.info? e).map (fun i=>(i.zero,i.size,i.bytes))=some (some z,k,bytes)) (hzc:z.cells.size=k) (hk:0<k)
 (ho:o.op=.call {callee:=.builtin .append,args:=#[s,x],argTypes:=#[t,t] })
 {base:Nat} {v:Value} {n:Nat} {xs:List Value} (hs:a.eval s=v) (hown:OwnK w base e k v n xs) {g c:Nat} {u:TypeId} {ys:List Value} (hx:a.eval x=.slice (some ⟨g,0,none⟩) 1 c) (hy:Blk w g u ys) (hyl:ys.length=k) (h1:∀u∈ys,u.oneCell'=true)
 (hmx:n+1≤maxLen) (hb:(n+1)*bytes≤140737488355328) (hbase:base≤w.heap.size)
 (h:∀v' w',Hid (OwnK w' base e k v' (n+1) (xs++ys))→Hid (w.grownBy w' v.ownBlock)→K (a.put o.dst v') w'):o.wp Tryz.prog a w K Q:=by
 obtain⟨v',w',hrun,h2,h3⟩:=i_X o.type ht hi0 hzc hk hown c hy hyl h1 hmx hb hbase;unfold Oper.wp execOp;simp only[ho,resolve,invoke,builtin,Sem.run_bind,Sem.run_pure,Result.andThen_ok,List.map_toArray,List.map_cons,List.map_nil,hs,hx,hrun];exact h v' w' h2 h3
theorem f_4{w:World}{ops:Array Oper}{rest:List Oper}{o:Oper}{a:Act}{Q:Exit→Act→World→Prop}(hgd:o.guard=none)(s x:Operand){e t:TypeId}{z:Value}{bytes k:Nat}
 (ht:Tryz.prog.underlying t=some (.slice e)) (hi0:(Tryz.prog.info? e).map (fun i=>(i.zero,i.size,i.bytes))=some (some z,k,bytes)) (hzc:z.cells.size=k) (hk:0<k)
 (ho:o.op=.call {callee:=.builtin .append,args:=#[s,x],argTypes:=#[t,t] })
 {base:Nat} {v:Value} {n:Nat} {xs:List Value} (hown:OwnK w base e k v n xs) (hs:a.eval s=v) {g c:Nat} {u:TypeId} {ys:List Value} (hy:Blk w g u ys) (hx:a.eval x=.slice (some ⟨g,0,none⟩) 1 c) (hyl:ys.length=k) (h1:∀u∈ys,u.oneCell'=true)
 (hmx:n+1≤maxLen) (hb:(n+1)*bytes≤140737488355328) {w0:World} {B0:Nat} (hbel:Below B0 w0 w) (hB0:B0≤w.heap.size) (hbase:base≤w.heap.size) (hB1:B0≤base)
 (h:∀v' w',Hid (OwnK w' base e k v' (n+1) (xs++ys))→Hid (Below B0 w0 w')→Hid (w.grownBy w' v.ownBlock)→wpList Tryz.prog ops Q rest (a.put o.dst v') w'):wpList Tryz.prog ops Q (o::rest) a w:=
 wpList_plain hgd fun _ hK=>k_F s x ht hi0 hzc hk ho hs hown hx hy hyl h1 hmx hb hbase fun v' w' h2 h3=>hK _ _ (h v' w' h2 (hown.below hbel h3.out hB0 hB1) h3)
end Mem
namespace Mem
open ChangeShapes WideShapes ChangeAt RowKit
structure Only(g:Nat)(w w':World):Prop where
 below:Below g w w'
 size:w'.heap.size=w.heap.size
 other:∀h,h≠g→w'.heap[h]?=w.heap[h]?
section
variable {g : Nat} {w w' u : World} {base k n : Nat} {e t : TypeId} {v : Value} {vs : List Value}
theorem Only.refl(g:Nat)(w:World):Only g w w:=⟨Below.refl _ _,rfl,fun _ _=>rfl⟩
theorem Only.set(h:Only g w u)(i:Nat)(x:Value):Only g w (u.setCell ⟨g,i,none⟩ x):=
 ⟨h.below.setCell (Nat.le_refl _) _,by rw[← h.size];simp[World.setCell],fun q hq=>(Below.heap_setCell u _ _ _ hq).trans (h.other q hq)⟩
theorem Only.own(h:Only g w w')(ho:OwnK w base e k v n vs)(hg:g<base):OwnK w' base e k v n vs:=ho.same fun q hq _=>h.other q (by omega)
theorem Only.blk{j:Nat}(h:Only g w w')(hb:Blk w j t vs)(hj:j≠g):Blk w' j t vs:=(h.other j hj).trans hb
theorem OwnK.blk(h:OwnK w base e k v n vs):(v=.slice none 0 0∧n=0)∨∃g cap cur,v=.slice (some ⟨g,0,none⟩) n cap∧base≤g∧Blk w g e cur∧n≤cap∧cur.length=cap*k∧cur.take (n*k)=vs:=by
 rcases h.1.2 with h|⟨g,cap,cur,e1,hg,hh,h1,_,h2,h3⟩
 ·exact .inl h
 ·exact .inr ⟨g,cap,cur.toList,e1,hg,hh,h1,by simpa using h2,h3⟩
end
end Mem
namespace Mem
open ChangeShapes WideShapes ChangeAt RowKit
theorem OwnK.new0(w:World)(base:Nat)(e:TypeId)(k:Nat)(hb:base≤w.heap.size):OwnK (w.alloc (.cells #[] e)) base e k (.slice (some ⟨w.heap.size,0,none⟩) 0 0) 0 []:=
 ⟨⟨by simp,.inr ⟨w.heap.size,0,#[],rfl,hb,heap_alloc_new w _,Nat.le_refl _,Nat.zero_le _,by simp,by simp⟩⟩,Nat.zero_le _⟩
theorem e_p{w:World}{base:Nat}{e t:TypeId}{z:Value}{bytes k:Nat}{v:Value}{n:Nat}{xs:List Value}(ty:TypeId)(ht:Tryz.prog.underlying t=some (.slice e))
 (hi0:(Tryz.prog.info? e).map (fun i=>(i.zero,i.size,i.bytes))=some (some z,k,bytes)) (hzc:z.cells.size=k) (hk:0<k)
 (h:OwnK w base e k v n xs) {B:Nat} {A:Option Addr} {m:Nat} (c:Nat) {ys:List Value} (hy:Recs w B A m k ys) (h1:∀u∈ys,u.oneCell'=true)
 (hmx:n+m≤maxLen) (hb:(n+m)*bytes≤140737488355328) (hbase:base≤w.heap.size):
 ∃v' w',(Builtin.append_ #[t,t] ty #[v,.slice A m c]).run Tryz.prog w=.ok v' w'∧OwnK w' base e k v' (n+m) (xs++ys)∧w.grownBy w' v.ownBlock∧(v'.ownBlock=v.ownBlock∨v'.ownBlock=some w.heap.size):=by
 obtain⟨hown,hm⟩:=h;obtain⟨i,hi,hz0,hz1,hz2⟩:=info_parts hi0;rcases A with _|ad
 ·have hm0:m=0:=by
   rcases Nat.eq_zero_or_pos m with h0|h0
   ·exact h0
   ·obtain⟨_,_,h,_⟩:=hy.2.2 h0
    cases h
  subst hm0;have hn:ys=[]:=List.eq_nil_of_length_eq_zero (by have:=hy.1;omega);subst hn;refine⟨v,w,?_,⟨by simpa using hown,hm⟩,World.grownBy.refl w _,.inl rfl⟩;rcases hown.2 with⟨rfl,rfl⟩|⟨g,cap,cur,rfl,_,_,hnc,_⟩
  ·simp[Builtin.append_,run_underlying ht,sizeOf,typeInfo,hi,Builtin.lenOf,Builtin.firstCells]
  ·simp[Builtin.append_,run_underlying ht,sizeOf,typeInfo,hi,Builtin.lenOf,Builtin.firstCells,hnc,storeCells]
 ·have hcells:∀j u,ys[j]?=some u→w.cell? (ad.add j)=some u:=by
   intro j u hu;rcases Nat.eq_zero_or_pos m with h0|h0
   ·subst h0
    have hn:ys=[]:=List.eq_nil_of_length_eq_zero (by have:=hy.1;omega);subst hn;simp at hu
   ·obtain⟨b,off,h,_,hc⟩:=hy.2.2 h0
    injection h with h;subst h;rw[b_n];exact hc j u hu
  obtain⟨v',w',hrun,h2,h3,_,h5⟩:=run_append_own_at (P:=Tryz.prog) w base t ty e i z k bytes ht hi hz0 hz1 hz2 hzc hk v n xs hown ad m c ys hy.1 hcells h1 hmx hb hbase;exact⟨v',w',hrun,⟨h2,hmx⟩,h3,h5⟩
theorem d_v{w:World}{o:Oper}{a:Act}{K:Act→World→Prop}{Q:Exit→Act→World→Prop}(s x:Operand){e t:TypeId}{z:Value}{bytes k:Nat}
 (ht:Tryz.prog.underlying t=some (.slice e)) (hi0:(Tryz.prog.info? e).map (fun i=>(i.zero,i.size,i.bytes))=some (some z,k,bytes)) (hzc:z.cells.size=k) (hk:0<k)
 (ho:o.op=.call {callee:=.builtin .append,args:=#[s,x],argTypes:=#[t,t] })
 {base:Nat} {v:Value} {n:Nat} {xs:List Value} (hs:a.eval s=v) (hown:OwnK w base e k v n xs) {B:Nat} {A:Option Addr} {m c:Nat} {ys:List Value} (hx:a.eval x=.slice A m c) (hy:Recs w B A m k ys) (h1:∀u∈ys,u.oneCell'=true)
 (hmx:n+m≤maxLen) (hb:(n+m)*bytes≤140737488355328) (hbase:base≤w.heap.size)
 (h:∀v' w',Hid (OwnK w' base e k v' (n+m) (xs++ys))→Hid (w.grownBy w' v.ownBlock)→Hid (v'.ownBlock=v.ownBlock∨v'.ownBlock=some w.heap.size)→K (a.put o.dst v') w'):o.wp Tryz.prog a w K Q:=by
 obtain⟨v',w',hrun,h2,h3,h4⟩:=e_p o.type ht hi0 hzc hk hown c hy h1 hmx hb hbase;unfold Oper.wp execOp;simp only[ho,resolve,invoke,builtin,Sem.run_bind,Sem.run_pure,Result.andThen_ok,List.map_toArray,List.map_cons,List.map_nil,hs,hx,hrun];exact h v' w' h2 h3 h4
theorem a_T{w:World}{ops:Array Oper}{rest:List Oper}{o:Oper}{a:Act}{Q:Exit→Act→World→Prop}(hgd:o.guard=none)(s x:Operand){e t:TypeId}{z:Value}{bytes k:Nat}
 (ht:Tryz.prog.underlying t=some (.slice e)) (hi0:(Tryz.prog.info? e).map (fun i=>(i.zero,i.size,i.bytes))=some (some z,k,bytes)) (hzc:z.cells.size=k) (hk:0<k)
 (ho:o.op=.call {callee:=.builtin .append,args:=#[s,x],argTypes:=#[t,t] })
 {base:Nat} {v:Value} {n:Nat} {xs:List Value} (hown:OwnK w base e k v n xs) (hs:a.eval s=v) {B:Nat} {A:Option Addr} {m c:Nat} {ys:List Value} (hy:Recs w B A m k ys) (hx:a.eval x=.slice A m c) (h1:∀u∈ys,u.oneCell'=true)
 (hmx:n+m≤maxLen) (hb:(n+m)*bytes≤140737488355328) {w0:World} {B0:Nat} (hbel:Below B0 w0 w) (hB0:B0≤w.heap.size) (hbase:base≤w.heap.size) (hB1:B0≤base)
 (h:∀v' w',Hid (OwnK w' base e k v' (n+m) (xs++ys))→Hid (Below B0 w0 w')→Hid (w.grownBy w' v.ownBlock)→wpList Tryz.prog ops Q rest (a.put o.dst v') w'):wpList Tryz.prog ops Q (o::rest) a w:=
 wpList_plain hgd fun _ hK=>d_v s x ht hi0 hzc hk ho hs hown hx hy h1 hmx hb hbase fun v' w' h2 h3 _=>hK _ _ (h v' w' h2 (hown.below hbel h3.out hB0 hB1) h3)
theorem g_P{w:World}{ops:Array Oper}{o:Oper}{a:Act}{K:Act→World→Prop}{Q:Exit→Act→World→Prop}{E:Prop}(hgd:o.guard=none)(s x:Operand){e t:TypeId}{z:Value}{bytes k:Nat}
 (ht:Tryz.prog.underlying t=some (.slice e)) (hi0:(Tryz.prog.info? e).map (fun i=>(i.zero,i.size,i.bytes))=some (some z,k,bytes)) (hzc:z.cells.size=k) (hk:0<k)
 (ho:o.op=.call {callee:=.builtin .append,args:=#[s,x],argTypes:=#[t,t] })
 {base:Nat} {v:Value} {n:Nat} {xs:List Value} (hown:OwnK w base e k v n xs) (hs:a.eval s=v) {B:Nat} {A:Option Addr} {m c:Nat} {ys:List Value} (hy:Recs w B A m k ys) (hx:a.eval x=.slice A m c) (h1:∀u∈ys,u.oneCell'=true)
 (hmx:n+m≤maxLen) (hb:(n+m)*bytes≤140737488355328) {w0:World} {B0:Nat} (hbel:Below B0 w0 w) (hB0:B0≤w.heap.size) (hbase:base≤w.heap.size) (hB1:B0≤base)
 (h:∀v' w',Hid (OwnK w' base e k v' (n+m) (xs++ys))→Hid (Below B0 w0 w')→Hid (w.grownBy w' v.ownBlock)→Hid (v'.ownBlock=v.ownBlock∨v'.ownBlock=some w.heap.size)→K (a.put o.dst v') w'):
 if Region.wanted o (yielded ops a.tmps)=true then Oper.wp Tryz.prog o a w K Q else E:=by
 have hw:Region.wanted o (yielded ops a.tmps)=true:=by simp[Region.wanted,hgd]
 rw[if_pos hw];exact d_v s x ht hi0 hzc hk ho hs hown hx hy h1 hmx hb hbase fun v' w' h2 h3 h4=>h v' w' h2 (hown.below hbel h3.out hB0 hB1) h3 h4
theorem OwnK.other{w w':World}{base k n:Nat}{e:TypeId}{v:Value}{vs:List Value}{row:Option Nat}(h:OwnK w base e k v n vs)(hg:w.grownBy w' row)(hn:∀g,v.ownBlock=some g→row≠some g):OwnK w' base e k v n vs:=by
 obtain⟨⟨hl,h⟩,hm⟩:=h;refine⟨⟨hl,?_⟩,hm⟩;rcases h with h|⟨g,cap,cur,rfl,hb,hh,hr⟩
 ·exact .inl h
 ·have hlt:g<w.heap.size:=by
   rcases Nat.lt_or_ge g w.heap.size with hlt|hge
   ·exact hlt
   ·rw[Array.getElem?_eq_none hge]at hh;cases hh
  exact .inr ⟨g,cap,cur,rfl,hb,(hg.block g hlt fun e=>hn g rfl e.symm).trans hh,hr⟩
theorem a_x{w:World}{ops:Array Oper}{rest:List Oper}{o:Oper}{a:Act}{Q:Exit→Act→World→Prop}(hgd:o.guard=none)(s x:Operand){e t:TypeId}{z:Value}{bytes k:Nat}
 (ht:Tryz.prog.underlying t=some (.slice e)) (hi0:(Tryz.prog.info? e).map (fun i=>(i.zero,i.size,i.bytes))=some (some z,k,bytes)) (hzc:z.cells.size=k) (hk:0<k)
 (ho:o.op=.call {callee:=.builtin .append,args:=#[s,x],argTypes:=#[t,t] })
 {base:Nat} {v:Value} {n:Nat} {xs:List Value} (hown:OwnK w base e k v n xs) (hs:a.eval s=v) {g c:Nat} {u:TypeId} {ys:List Value} (hy:Blk w g u ys) (hx:a.eval x=.slice (some ⟨g,0,none⟩) 1 c) (hyl:ys.length=k) (h1:∀u∈ys,u.oneCell'=true)
 (hmx:n+1≤maxLen) (hb:(n+1)*bytes≤140737488355328) (hbase:base≤w.heap.size)
 (h:∀v' w',Hid (OwnK w' base e k v' (n+1) (xs++ys))→Hid (w.grownBy w' v.ownBlock)→Hid (v'.ownBlock=v.ownBlock∨v'.ownBlock=some w.heap.size)→wpList Tryz.prog ops Q rest (a.put o.dst v') w'):wpList Tryz.prog ops Q (o::rest) a w:=
 wpList_plain hgd fun _ hK=>d_v s x ht hi0 hzc hk ho hs hown hx (by
  refine⟨by omega,by unfold maxLen;omega,fun _=>⟨g,0,rfl,hy.lt,fun j q hq=>?_⟩⟩;rw[Nat.zero_add];exact hy.cell hq) h1 hmx hb hbase fun v' w' h2 h3 h4=>hK _ _ (h v' w' h2 h3 h4)
structure RF where
 slot:Nat→Nat
 eater:Nat→Option Nat
 fact:Nat→Value→(Nat→Prop)→World→Prop
def d_U(R:RF)(listed:Array Bool)(i:Nat):Prop:=listed.getD i false=true∧∀j,R.eater i=some j→listed.getD j false=false
structure RInv(ops:Array Oper)(R:RF)(w0:World)(a0:Act)(listed:Array Bool)(a:Act)(u:World)(D:Nat→Nat→Prop):Prop where
 size:listed.size=ops.size
 down:∀(i:Nat) (o:Oper),ops[i]?=some o→listed.getD i false=true→∀e∈o.after,Region.binds .any e=true→listed.getD e.on false=true
 tsz:a.tmps.size=a0.tmps.size
 dfr:a.defers=a0.defers
 rest:∀t,(∀ (j:Nat) (o:Oper),ops[j]?=some o→listed.getD j false=true→o.dst≠some t)→a.tmps[t]?=a0.tmps[t]?
 old:Below w0.heap.size w0 u
 fact:∀i,d_U R listed i→R.fact i (a.tmps.getD (R.slot i) undef) (D i) u
 inn:∀i b,d_U R listed i→D i b→w0.heap.size≤b∧b<u.heap.size
 dis:∀i j b,i≠j→d_U R listed i→d_U R listed j→D i b→¬D j b
theorem e_U{listed:Array Bool}{i j:Nat}:(listed.setIfInBounds i true).getD j false=true→j=i∨listed.getD j false=true:=by
 intro h;by_cases e:j=i
 ·exact .inl e
 ·rw[getD_set_ne false (Ne.symm e)]at h
  exact .inr h
theorem i_Y{listed:Array Bool}{i j:Nat}(h:(listed.setIfInBounds i true).getD j false=false):listed.getD j false=false:=by
 cases hl:listed.getD j false
 ·rfl
 ·rw[getD_set_true hl]at h;cases h
theorem e_q{a:Act}{d:Option Tmp}{v:Value}{t:Nat}(h:d≠some t):(a.put d v).tmps.getD t undef=a.tmps.getD t undef:=by
 cases d with
 |none=>rfl
 |some d=>
  have hne:d≠t:=fun e=>h (by rw[e]);simp[Act.put,Array.getElem?_setIfInBounds_ne hne]
theorem m_W{a:Act}{d:Option Tmp}{v:Value}{t:Nat}(h:d≠some t):(a.put d v).tmps[t]?=a.tmps[t]? :=by
 cases d with
 |none=>rfl
 |some d=>
  have hne:d≠t:=fun e=>h (by rw[e]);simp[Act.put,Array.getElem?_setIfInBounds_ne hne]
theorem o_3(a:Act)(d:Option Tmp)(v:Value):(a.put d v).tmps.size=a.tmps.size∧(a.put d v).defers=a.defers:=by
 cases d<;>simp[Act.put]
def k_G(R:RF)(w0:World)(o:Oper)(i:Nat)(a:Act)(u:World)(D:Nat→Nat→Prop)(v:Value)(u':World)(D':Nat→Prop):Prop:=
 Below w0.heap.size w0 u'∧u.heap.size≤u'.heap.size∧(∀ b,b<u.heap.size→(∀ j,R.eater j=some i→¬D j b)→u'.heap[b]?=u.heap[b]?)∧(∀ b,D' b→(∃ j,R.eater j=some i∧D j b)∨(u.heap.size≤b∧b<u'.heap.size))∧R.fact i ((a.put o.dst v).tmps.getD (R.slot i) undef) D' u'
section
variable {P : Program} {ops : Array Oper} {Q : Exit → Act → World → Prop} {R : RF} {w0 : World} {a0 : Act}
theorem RInv.next{listed:Array Bool}{a:Act}{u u':World}{D:Nat→Nat→Prop}{i:Nat}{o:Oper}{v:Value}{D':Nat→Prop}
 (hslot:∀(i j:Nat) (o oi:Oper),ops[j]?=some o→ops[i]?=some oi→o.dst=some (R.slot i)→j=i∨∃e∈oi.after,e.on=j∧Region.binds .any e=true)
 (heat:∀(j i:Nat) (oi:Oper),R.eater j=some i→ops[i]?=some oi→∃e∈oi.after,e.on=j∧Region.binds .any e=true)
 (hmon:∀i v D u u',R.fact i v D u→(∀ b,D b→u'.heap[b]?=u.heap[b]?)→R.fact i v D u')
 (h:RInv ops R w0 a0 listed a u D) (ho:ops[i]?=some o) (hn:listed.getD i false=false) (hr:∀e∈o.after,Region.binds .any e=true→listed.getD e.on false=true)
 (hp:k_G R w0 o i a u D v u' D'):RInv ops R w0 a0 (listed.setIfInBounds i true) (a.put o.dst v) u' (fun k=>if k=i then D' else D k):=by
 obtain⟨h1,h2,h3,h4,h5⟩:=hp;have hi:i<ops.size:=(Array.getElem?_eq_some_iff.1 ho).1
 have hset:(listed.setIfInBounds i true).getD i false=true:=by
  have:i<listed.size:=by rw[h.size];exact hi
  simp[this]
 have live:∀k,k≠i→d_U R (listed.setIfInBounds i true) k→d_U R listed k∧R.eater k≠some i:=fun k hk hl=>by
  refine⟨⟨(e_U hl.1).resolve_left hk,fun j hj=>i_Y (hl.2 j hj)⟩,fun e=>?_⟩;have:=hl.2 i e;rw[hset]at this;cases this
 have eaten:∀j,R.eater j=some i→d_U R listed j:=fun j hj=>by
  obtain⟨e,he,e1,e2⟩:=heat j i o hj ho;refine⟨by rw[← e1];exact hr e he e2,fun k hk=>?_⟩;rw[hj]at hk;injection hk with hk;rw[← hk];exact hn
 have same:∀k b,d_U R listed k→R.eater k≠some i→D k b→u'.heap[b]?=u.heap[b]? :=fun k b hl hk hb=>
  h3 b (h.inn k b hl hb).2 fun j hj=>h.dis k j b (fun e=>hk (by rw[e];exact hj)) hl (eaten j hj) hb
 have hsl:∀k,d_U R listed k→k≠i→k<ops.size→o.dst≠some (R.slot k):=fun k hl hk hkn e=>by
  obtain⟨ok,hok⟩:∃ok,ops[k]?=some ok:=⟨_,Array.getElem?_eq_getElem hkn⟩;rcases hslot k i o ok ho hok e with h6|⟨ed,h6,h7,h8⟩
  ·exact hk h6.symm
  ·have:=h.down k ok hok hl.1 ed h6 h8
   rw[h7,hn]at this;cases this
 have lt:∀k,d_U R listed k→k<ops.size:=fun k hl=>by
  rcases Nat.lt_or_ge k ops.size with hlt|hge
  ·exact hlt
  ·have:=hl.1
   rw[← h.size]at hge;simp[Array.getElem?_eq_none hge]at this
 refine⟨by simpa using h.size,fun k ok hok hl e he hb=>?_,by rw[(o_3 a o.dst v).1];exact h.tsz,by rw[(o_3 a o.dst v).2];exact h.dfr,fun t ht=>?_,h1,fun k hl=>?_,fun k b hl hb=>?_,fun k k' b hne hl hl' hb hb'=>?_⟩
 ·rcases e_U hl with rfl|hl
  ·rw[ho]at hok
   injection hok with hok;subst hok;exact getD_set_true (hr e he hb)
  ·exact getD_set_true (h.down k ok hok hl e he hb)
 ·rw[m_W (ht i o ho hset)]
  exact h.rest t fun j o' ho' hl=>ht j o' ho' (getD_set_true hl)
 ·by_cases e:k=i
  ·subst e
   simp only[if_true];exact h5
  ·obtain⟨hl1,hl2⟩:=live k e hl
   simp only[if_neg e];rw[e_q (hsl k hl1 e (lt k hl1))];exact hmon k _ _ _ _ (h.fact k hl1) fun b hb=>same k b hl1 hl2 hb
 ·by_cases e:k=i
  ·subst e
   simp only[if_true]at hb;rcases h4 b hb with⟨j,hj,hd⟩|h6
   ·have:=h.inn j b (eaten j hj) hd
    omega
   ·have:=h.old.size
    omega
  ·obtain⟨hl1,_⟩:=live k e hl
   simp only[if_neg e]at hb;have:=h.inn k b hl1 hb;omega
 ·have key:∀k,k≠i→d_U R (listed.setIfInBounds i true) k→D k b→¬D' b:=fun k e hl hb hb'=>by
   obtain⟨hl1,hl2⟩:=live k e hl;rcases h4 b hb' with⟨j,hj,hd⟩|h6
   ·exact h.dis k j b (fun e'=>hl2 (by rw[e'];exact hj)) hl1 (eaten j hj) hb hd
   ·have:=h.inn k b hl1 hb
    omega
  by_cases e:k=i
  ·subst e
   have e':k'≠k:=fun e'=>hne e'.symm;simp only[if_true]at hb;simp only[if_neg e']at hb';exact key k' e' hl' hb' hb
  ·simp only[if_neg e]at hb
   by_cases e':k'=i
   ·subst e'
    simp only[if_true]at hb';exact key k e hl hb hb'
   ·simp only[if_neg e']at hb'
    exact h.dis k k' b hne (live k e hl).1 (live k' e' hl').1 hb hb'
theorem c_r{listed:Array Bool}(htop:∀(i:Nat) (o:Oper),ops[i]?=some o→∀e∈o.after,Region.binds .any e=true→e.on<i)(hs:listed.size=ops.size)(hr:Region.ready .any ops listed=[]):∀i,i<ops.size→listed.getD i false=true:=by
 intro i;induction i using Nat.strongRecOn with
 |ind i ih=>
  intro hi;cases hl:listed.getD i false
  ·exfalso
   obtain⟨o,ho⟩:∃o,ops[i]?=some o:=⟨_,Array.getElem?_eq_getElem hi⟩
   have:i∈Region.ready .any ops listed:=by
    rw[mem_ready];refine⟨?_,o,ho,fun e he hb=>?_⟩
    ·have:i<listed.size:=by rw[hs];exact hi
     simpa[this]using hl
    ·have hlt:=htop i o ho e he hb
     exact ih e.on hlt (by omega)
   rw[hr]at this;cases this
  ·rfl
theorem h_8{id:Nat}{w:World}(R:RF)(hm:P.follows .mixedOrders=true)
 (htop:∀(i:Nat) (o:Oper),ops[i]?=some o→∀e∈o.after,Region.binds .any e=true→e.on<i)
 (hslot:∀(i j:Nat) (o oi:Oper),ops[j]?=some o→ops[i]?=some oi→o.dst=some (R.slot i)→j=i∨∃e∈oi.after,e.on=j∧Region.binds .any e=true)
 (heat:∀(j i:Nat) (oi:Oper),R.eater j=some i→ops[i]?=some oi→∃e∈oi.after,e.on=j∧Region.binds .any e=true)
 (hmon:∀i v D u u',R.fact i v D u→(∀ b,D b→u'.heap[b]?=u.heap[b]?)→R.fact i v D u')
 (hstep:∀(i:Nat) (o:Oper),ops[i]?=some o→∀listed a u D,RInv ops R w.drew a0 listed a u D→(∀ e∈o.after,Region.binds .any e=true→listed.getD e.on false=true)→listed.getD i false=false→∀K:Act→World→Prop,(∀ v u' D',k_G R w.drew o i a u D v u' D'→K (a.put o.dst v) u')→if Region.wanted o (yielded ops a.tmps)=true then Oper.wp P o a u K Q else K (a.put o.dst undef) u)
 (hdone:∀listed a u D,RInv ops R w.drew a0 listed a u D→(∀ i,i<ops.size→listed.getD i false=true)→Q .normal a u):(Code.region id ops true).wp P Q a0 w:=by
 refine wp_region_any hm ?_
 have main:∀(fuel:Nat) (listed:Array Bool) (a:Act) (u:World) (D:Nat→Nat→Prop),listed.toList.countP (fun b=>!b)≤fuel→RInv ops R w.drew a0 listed a u D→wpAny P .any ops Q fuel listed a u:=by
  intro fuel;induction fuel with
  |zero=>
   intro listed a u D hc hI
   have hall:∀i,i<ops.size→listed.getD i false=true:=fun i hi=>by
    have h0:=List.countP_eq_zero.1 (Nat.le_zero.1 hc);have hlt:i<listed.size:=by rw[hI.size];exact hi
    have:=h0 listed[i] (by simp);simpa[hlt]using this
   refine⟨?_,hdone listed a u D hI hall⟩;refine List.eq_nil_iff_forall_not_mem.2 fun i hi=>?_;rw[mem_ready]at hi;obtain⟨h0,o,ho,_⟩:=hi;have hlt:=(Array.getElem?_eq_some_iff.1 ho).1;have h1:=hall i hlt;have hlt':i<listed.size:=by rw[hI.size];exact hlt
   simp[hlt']at h0 h1;rw[h0]at h1;cases h1
  |succ fuel ih=>
   intro listed a u D hc hI;refine⟨fun hr=>hdone listed a u D hI (c_r htop hI.size hr),fun i hi=>?_⟩;obtain⟨h0,o,ho,hr⟩:=mem_ready.1 hi;have hlt:=(Array.getElem?_eq_some_iff.1 ho).1;have hlt':i<listed.size:=by rw[hI.size];exact hlt
   have hn:listed.getD i false=false:=by simpa[hlt']using h0
   refine wpOp_step ho fun K' hK=>?_;refine hstep i o ho listed a u D hI hr hn K' fun v u' D' hp=>hK _ _ ?_;refine ih _ _ _ _ ?_ (hI.next hslot heat hmon ho hn hr hp);have hb:listed[i]=false:=by simpa[hlt']using hn
   rw[Array.toList_setIfInBounds,List.countP_set (by simpa using hlt')];simp[hb];have hpos:0<listed.toList.countP (fun b=>!b):=List.countP_pos_iff.2 ⟨listed[i],by simp,by simp[hb]⟩;rw[Array.countP_toList]at hc hpos;omega
 refine main ops.size _ a0 _ (fun _ _=>False) ?_ ?_
 ·refine Nat.le_trans List.countP_le_length ?_
  simp
 ·refine⟨by simp,fun i o _ hl=>?_,rfl,rfl,fun _ _=>rfl,Below.refl _ _,fun i hl=>?_,fun i b hl=>?_,fun i j b _ hl=>?_⟩
  all_goals
   exfalso
   first
    |(have:=hl.1;simp[Array.getElem?_replicate]at this;done)
    |(have:=hl.1;simp[Array.getElem?_replicate]at this;split at this<;>simp at this)
    |(simp[Array.getElem?_replicate]at hl;done)
    |(simp[Array.getElem?_replicate]at hl;split at hl<;>simp at hl)
end
def topB(ops:Array Oper):Bool:=(List.range ops.size).all fun i=>match ops[i]? with
 |none=>true
 |some o=>o.after.all fun e=>!Region.binds .any e || decide (e.on<i)
def depB(o:Oper)(j:Nat):Bool:=o.after.any fun e=>(e.on==j) && Region.binds .any e
def k_H(ops:Array Oper)(slot:Nat→Nat):Bool:=(List.range ops.size).all fun i=>(List.range ops.size).all fun j=>match ops[i]?,ops[j]? with
 |some oi,some oj=>!(oj.dst==some (slot i)) || (j==i) || depB oi j
 |_,_=>true
def eatB(ops:Array Oper)(eater:Nat→Option Nat):Bool:=(List.range ops.size).all fun j=>match eater j with
 |none=>true
 |some i=>match ops[i]? with
  |none=>true
  |some oi=>depB oi j
def outB(ops:Array Oper)(t:Nat):Bool:=ops.all fun o=>!(o.dst==some t)
theorem h_9{o:Oper}{j:Nat}(h:depB o j=true):∃e∈o.after,e.on=j∧Region.binds .any e=true:=by
 unfold depB at h;rw[← Array.any_toList,List.any_eq_true]at h;obtain⟨e,he,h⟩:=h;simp only[Bool.and_eq_true,beq_iff_eq]at h;exact⟨e,by simpa using he,h.1,h.2⟩
theorem f_5{ops:Array Oper}(h:topB ops=true):∀(i:Nat) (o:Oper),ops[i]?=some o→∀e∈o.after,Region.binds .any e=true→e.on<i:=by
 intro i o ho e he hb;have hi:=(Array.getElem?_eq_some_iff.1 ho).1;have:=List.all_eq_true.1 h i (List.mem_range.2 hi);rw[ho]at this;simp only[Array.all_eq_true_iff_forall_mem]at this;have:=this e he;simpa[hb]using this
theorem e_r{ops:Array Oper}{slot:Nat→Nat}(h:k_H ops slot=true):∀(i j:Nat) (o oi:Oper),ops[j]?=some o→ops[i]?=some oi→o.dst=some (slot i)→j=i∨∃e∈oi.after,e.on=j∧Region.binds .any e=true:=by
 intro i j o oi hj hi hd;have hil:=(Array.getElem?_eq_some_iff.1 hi).1;have hjl:=(Array.getElem?_eq_some_iff.1 hj).1;have:=List.all_eq_true.1 (List.all_eq_true.1 h i (List.mem_range.2 hil)) j (List.mem_range.2 hjl);rw[hi,hj]at this;simp only[hd,beq_self_eq_true,Bool.not_true,Bool.false_or,Bool.or_eq_true,beq_iff_eq]at this;rcases this with h|h
 ·exact .inl h
 ·exact .inr (h_9 h)
theorem f_6{ops:Array Oper}{eater:Nat→Option Nat}(hs:∀j,ops.size≤j→eater j=none)(h:eatB ops eater=true):∀(j i:Nat) (oi:Oper),eater j=some i→ops[i]?=some oi→∃e∈oi.after,e.on=j∧Region.binds .any e=true:=by
 intro j i oi he hi;rcases Nat.lt_or_ge j ops.size with hlt|hge
 ·have:=List.all_eq_true.1 h j (List.mem_range.2 hlt)
  rw[he]at this;simp only[hi]at this;exact h_9 this
 ·rw[hs j hge]at he
  cases he
section
variable {P : Program} {ops : Array Oper} {Q : Exit → Act → World → Prop} {R : RF} {w0 : World} {a0 : Act} {i : Nat} {o : Oper} {listed : Array Bool} {a : Act} {u : World} {D : Nat → Nat → Prop}
theorem RInv.out(h:RInv ops R w0 a0 listed a u D)(t:Nat)(hb:outB ops t=true):a.tmps.getD t undef=a0.tmps.getD t undef:=by
 have:=h.rest t fun j o ho _ e=>by
  have hm:o∈ops:=Array.mem_of_getElem? ho;have:=(Array.all_eq_true_iff_forall_mem.1 hb) o hm;rw[e]at this;simp at this
 simp only[Array.getD_eq_getD_getElem?,this]
theorem RInv.get(h:RInv ops R w0 a0 listed a u D)(hr:∀e∈o.after,Region.binds .any e=true→listed.getD e.on false=true)(hn:listed.getD i false=false)(j:Nat)(hj:depB o j=true)(he:R.eater j=none∨R.eater j=some i):
 R.fact j (a.tmps.getD (R.slot j) undef) (D j) u∧∀b,D j b→w0.heap.size≤b∧b<u.heap.size:=by
 obtain⟨e,he1,he2,he3⟩:=h_9 hj
 have hl:d_U R listed j:=by
  refine⟨by rw[← he2];exact hr e he1 he3,fun k hk=>?_⟩;rcases he with he|he
  ·rw[he]at hk;cases hk
  ·rw[he]at hk;injection hk with hk;rw[← hk];exact hn
 exact⟨h.fact j hl,fun b hb=>h.inn j b hl hb⟩
theorem RInv.far(h:RInv ops R w0 a0 listed a u D)(hr:∀e∈o.after,Region.binds .any e=true→listed.getD e.on false=true)(hn:listed.getD i false=false)(j k:Nat)(hj:depB o j=true)(hk:depB o k=true)(he:R.eater j=none∨R.eater j=some i)(he':R.eater k=none∨R.eater k=some i)(hne:j≠k):
 ∀b,D j b→¬D k b:=by
 have live:∀j,depB o j=true→(R.eater j=none∨R.eater j=some i)→d_U R listed j:=fun j hj he=>by
  obtain⟨e,he1,he2,he3⟩:=h_9 hj;refine⟨by rw[← he2];exact hr e he1 he3,fun k hk=>?_⟩;rcases he with he|he
  ·rw[he]at hk;cases hk
  ·rw[he]at hk;injection hk with hk;rw[← hk];exact hn
 exact fun b hb=>h.dis j k b hne (live j hj he) (live k hk he') hb
def RStep(P:Program)(ops:Array Oper)(Q:Exit→Act→World→Prop)(R:RF)(w0:World)(a0:Act)(i:Nat)(o:Oper):Prop:=
 ∀listed a u D,RInv ops R w0 a0 listed a u D→(∀ e∈o.after,Region.binds .any e=true→listed.getD e.on false=true)→listed.getD i false=false→∀K:Act→World→Prop,(∀ v u' D',k_G R w0 o i a u D v u' D'→K (a.put o.dst v) u')→if Region.wanted o (yielded ops a.tmps)=true then Oper.wp P o a u K Q else K (a.put o.dst undef) u
def RPostV(R:RF)(w0:World)(i:Nat)(u:World)(D:Nat→Nat→Prop)(v:Value)(u':World)(D':Nat→Prop):Prop:=
 Below w0.heap.size w0 u'∧u.heap.size≤u'.heap.size∧(∀ b,b<u.heap.size→(∀ j,R.eater j=some i→¬D j b)→u'.heap[b]?=u.heap[b]?)∧(∀ b,D' b→(∃ j,R.eater j=some i∧D j b)∨(u.heap.size≤b∧b<u'.heap.size))∧R.fact i v D' u'
theorem RPostV.post{v:Value}{u':World}{D':Nat→Prop}{t:Nat}(hd:o.dst=some t)(hsl:R.slot i=t)(hin:t<a.tmps.size)(h:RPostV R w0 i u D v u' D'):k_G R w0 o i a u D v u' D':=by
 obtain⟨h1,h2,h3,h4,h5⟩:=h;refine⟨h1,h2,h3,h4,?_⟩;rw[hd,hsl];simpa[Act.put,hin]using h5
theorem RStep.val(hg:o.guard=none)(t:Nat)(hd:o.dst=some t)(hsl:R.slot i=t)(hin:t<a0.tmps.size)
 (h:∀listed a u D,RInv ops R w0 a0 listed a u D→(∀ e∈o.after,Region.binds .any e=true→listed.getD e.on false=true)→listed.getD i false=false→∃v u' D',(execOp a.eval o).run P u=.ok (.value v) u'∧RPostV R w0 i u D v u' D'):RStep P ops Q R w0 a0 i o:=by
 intro listed a u D hI hr hn K hK;obtain⟨v,u',D',h1,h2⟩:=h listed a u D hI hr hn;rw[if_pos (by simp[Region.wanted,hg])];unfold Oper.wp;rw[h1];exact hK v u' D' (h2.post hd hsl (by rw[hI.tsz];exact hin))
theorem RStep.pure(hg:o.guard=none)(t:Nat)(hd:o.dst=some t)(hsl:R.slot i=t)(hin:t<a0.tmps.size)
 (h:∀listed a u D,RInv ops R w0 a0 listed a u D→(∀ e∈o.after,Region.binds .any e=true→listed.getD e.on false=true)→listed.getD i false=false→∃v,(execOp a.eval o).run P u=.ok (.value v) u∧R.fact i v (fun _=>False) u):RStep P ops Q R w0 a0 i o:=
 RStep.val hg t hd hsl hin fun listed a u D hI hr hn=>by
  obtain⟨v,h1,h2⟩:=h listed a u D hI hr hn;exact⟨v,u,_,h1,hI.old,Nat.le_refl _,fun _ _ _=>rfl,fun _ hb=>hb.elim,h2⟩
theorem RStep.call(hg:o.guard=none)(t:Nat)(hd:o.dst=some t)(hsl:R.slot i=t)(hin:t<a0.tmps.size)
 (h:∀listed a u D,RInv ops R w0 a0 listed a u D→(∀ e∈o.after,Region.binds .any e=true→listed.getD e.on false=true)→listed.getD i false=false→∃f args,(execOp a.eval o).run P u=.ok (.enter f args) u∧Calls P f args u fun e u'=>∃v D',e=.returned v∧RPostV R w0 i u D v u' D'):RStep P ops Q R w0 a0 i o:=by
 intro listed a u D hI hr hn K hK;obtain⟨f,args,h1,h2⟩:=h listed a u D hI hr hn;rw[if_pos (by simp[Region.wanted,hg])];unfold Oper.wp;rw[h1];refine h2.mono ?_;rintro e u' ⟨v,D',rfl,h3⟩;exact hK v u' D' (h3.post hd hsl (by rw[hI.tsz];exact hin))
theorem RStep.store(hg:o.guard=none)(hd:o.dst=none)
 (h:∀listed a u D,RInv ops R w0 a0 listed a u D→(∀ e∈o.after,Region.binds .any e=true→listed.getD e.on false=true)→listed.getD i false=false→∃u' D',(execOp a.eval o).run P u=.ok .skip u'∧RPostV R w0 i u D (a.tmps.getD (R.slot i) undef) u' D'):RStep P ops Q R w0 a0 i o:=by
 intro listed a u D hI hr hn K hK;obtain⟨u',D',h1,h2⟩:=h listed a u D hI hr hn;rw[if_pos (by simp[Region.wanted,hg])];unfold Oper.wp;rw[h1];refine hK undef u' D' ?_;unfold k_G;rw[hd];exact h2
def StepsFrom(P:Program)(ops:Array Oper)(Q:Exit→Act→World→Prop)(R:RF)(w0:World)(a0:Act):Nat→List Oper→Prop
 |_,[]=>True
 |k,o::r=>RStep P ops Q R w0 a0 k o∧StepsFrom P ops Q R w0 a0 (k+1) r
theorem StepsFrom.at_{l:List Oper}{k:Nat}(h:StepsFrom P ops Q R w0 a0 k l){j:Nat}{o:Oper}(ho:l[j]?=some o):RStep P ops Q R w0 a0 (k+j) o:=by
 induction l generalizing k j with
 |nil=>cases ho
 |cons x r ih=>
  cases j with
  |zero=>simp at ho;subst ho;exact h.1
  |succ j=>
   have:=ih h.2 (j:=j) (by simpa using ho);rw[show k+(j+1)=k+1+j by omega];exact this
theorem a_s{id:Nat}{w:World}{l:List Oper}(R:RF)(hm:P.follows .mixedOrders=true)(h1:topB l.toArray=true)(h2:k_H l.toArray R.slot=true)(h3:∀j,l.length≤j→R.eater j=none)(h4:eatB l.toArray R.eater=true)
 (hmon:∀i v D u u',R.fact i v D u→(∀ b,D b→u'.heap[b]?=u.heap[b]?)→R.fact i v D u')
 (hs:StepsFrom P l.toArray Q R w.drew a0 0 l)
 (hdone:∀listed a u D,RInv l.toArray R w.drew a0 listed a u D→(∀ i,i<l.length→listed.getD i false=true)→Q .normal a u):(Code.region id l.toArray true).wp P Q a0 w:=
 h_8 R hm (f_5 h1) (e_r h2) (f_6 (by simpa using h3) h4) hmon (fun i o ho listed a u D hI hr hn K hK=>by
  have:=hs.at_ (j:=i) (o:=o) (by simpa using ho);rw[Nat.zero_add]at this;exact this listed a u D hI hr hn K hK) (by simpa using hdone)
end
def pureF(p:Value→Prop)(v:Value)(D:Nat→Prop):Prop:=p v∧∀b,¬D b
def ownF(base k:Nat)(e:TypeId)(n:Nat)(vs:List Value)(v:Value)(D:Nat→Prop)(u:World):Prop:=OwnK u base e k v n vs∧∀b,D b↔v.ownBlock=some b
def blkF(sh:Nat→Value)(t:TypeId)(vs:List Value)(v:Value)(D:Nat→Prop)(u:World):Prop:=∃g,v=sh g∧Blk u g t vs∧∀b,D b↔b=g
theorem pureF.new{p:Value→Prop}{v:Value}(h:p v):pureF p v (fun _=>False):=⟨h,fun _ h=>h⟩
theorem ownF.mon{base k n:Nat}{e:TypeId}{vs:List Value}{v:Value}{D:Nat→Prop}{u u':World}(h:ownF base k e n vs v D u)(hk:∀b,D b→u'.heap[b]?=u.heap[b]?):ownF base k e n vs v D u':=by
 obtain⟨⟨⟨hl,ho⟩,hm⟩,hd⟩:=h;refine⟨⟨⟨hl,?_⟩,hm⟩,hd⟩;rcases ho with ho|⟨g,cap,cur,rfl,hg,hh,hr⟩
 ·exact .inl ho
 ·exact .inr ⟨g,cap,cur,rfl,hg,(hk g ((hd g).2 rfl)).trans hh,hr⟩
theorem blkF.mon{sh:Nat→Value}{t:TypeId}{vs:List Value}{v:Value}{D:Nat→Prop}{u u':World}(h:blkF sh t vs v D u)(hk:∀b,D b→u'.heap[b]?=u.heap[b]?):blkF sh t vs v D u':=by
 obtain⟨g,e,hb,hd⟩:=h;exact⟨g,e,(hk g ((hd g).2 rfl)).trans hb,hd⟩
theorem a_a{P:Program}{o:Oper}{a:Act}{u:World}{x:Operand}{v:Value}(h:o.op=.move x∨o.op=.assign x)(hv:a.eval x=v):(execOp a.eval o).run P u=.ok (.value v) u:=by
 unfold execOp;rcases h with h|h<;>rw[h,←hv]<;>simp
theorem a_f{P:Program}{o:Oper}{a:Act}{u:World}{t:TypeId}{x:Operand}{p v:Value}(h:o.op=.load t x)(hp:a.eval x=p)(hr:(Instr.loadAt t p).run P u=.ok v u):(execOp a.eval o).run P u=.ok (.value v) u:=by
 unfold execOp;rw[h];simp only[hp,Sem.run_bind,hr,Result.andThen_ok,Sem.run_pure]
theorem b_m{P:Program}{o:Oper}{a:Act}{u u':World}{t:TypeId}{x y:Operand}{p v:Value}(h:o.op=.store t x y)(hp:a.eval x=p)(hv:a.eval y=v)(hr:(Instr.storeAt t p v).run P u=.ok () u'):(execOp a.eval o).run P u=.ok .skip u':=by
 unfold execOp;rw[h];simp only[hp,hv,Sem.run_bind,hr,Result.andThen_ok,Sem.run_pure]
theorem r_e(f:Nat→Value)(ts:List Nat)(x:Array Value)(t:Nat):(ts.foldl (fun x t=>x.setIfInBounds t (f t)) x)[t]?=if t∈ts∧t<x.size then some (f t)else x[t]? :=by
 induction ts generalizing x with
 |nil=>simp
 |cons s r ih=>
  rw[List.foldl_cons,ih];simp only[Array.size_setIfInBounds,List.mem_cons];by_cases h1:t∈r
  ·by_cases h2:t<x.size
   ·rw[if_pos ⟨h1,h2⟩,if_pos ⟨.inr h1,h2⟩]
   ·rw[if_neg (fun h=>h2 h.2),if_neg (fun h=>h2 h.2),Array.getElem?_eq_none (by simp;omega),Array.getElem?_eq_none (by omega)]
  ·rw[if_neg (fun h=>h1 h.1)]
   by_cases h3:t=s
   ·subst h3
    by_cases h2:t<x.size
    ·rw[if_pos ⟨.inl rfl,h2⟩,Array.getElem?_setIfInBounds_self_of_lt h2]
    ·rw[if_neg (fun h=>h2 h.2),Array.getElem?_eq_none (by simp;omega),Array.getElem?_eq_none (by omega)]
   ·rw[if_neg (fun h=>by rcases h.1 with h|h;exact h3 h;exact h1 h),Array.getElem?_setIfInBounds_ne (Ne.symm h3)]
theorem RInv.fill{l:List Oper}{R:RF}{w0 u:World}{a0 a:Act}{listed:Array Bool}{D:Nat→Nat→Prop}(h:RInv l.toArray R w0 a0 listed a u D)(ts:List Nat)(hts:l.filterMap (·.dst)=ts):
 a=⟨ts.foldl (fun x t=>x.setIfInBounds t (a.tmps.getD t undef)) a0.tmps,a0.defers⟩:=by
 obtain⟨tm,df⟩:=a;have h1:=h.tsz;have h2:=h.dfr;have h3:=h.rest;simp only at h1 h2 h3 ⊢;subst h2;congr 1
 refine Array.ext_getElem? fun t=>?_;rw[r_e];by_cases hm:t∈ts
 ·by_cases hl:t<a0.tmps.size
  ·rw[if_pos ⟨hm,hl⟩]
   have:t<tm.size:=by omega
   simp[this]
  ·rw[if_neg (fun h=>hl h.2),Array.getElem?_eq_none (by omega),Array.getElem?_eq_none (by omega)]
 ·rw[if_neg (fun h=>hm h.1)]
  refine h3 t fun j o ho _ e=>hm ?_;rw[← hts,List.mem_filterMap];exact⟨o,List.mem_of_getElem? (by simpa using ho),e⟩
def boxRF(slots:List Nat)(vals:List Value)(ab st:Nat)(t:TypeId)(zs ws:List Value):RF:=
 ⟨fun k=>slots.getD k 0,fun k=>if k=ab then some st else none,fun k v D u=>
   if k=ab then blkF (fun g=>.pointer (some ⟨g,0,none⟩)) t zs v D u else if k=st then blkF (fun g=>.pointer (some ⟨g,0,none⟩)) t ws v D u else pureF (fun v=>v=vals.getD k undef) v D⟩
theorem boxRF.mon{slots:List Nat}{vals:List Value}{ab st:Nat}{t:TypeId}{zs ws:List Value}(k:Nat)(v:Value)(D:Nat→Prop)(u u':World)(h:(boxRF slots vals ab st t zs ws).fact k v D u)(hk:∀b,D b→u'.heap[b]?=u.heap[b]?):(boxRF slots vals ab st t zs ws).fact k v D u':=by
 simp only[boxRF]at h ⊢;split
 ·rename_i e;rw[if_pos e]at h;exact h.mon hk
 ·rename_i e
  rw[if_neg e]at h;split
  ·rename_i e';rw[if_pos e']at h;exact h.mon hk
  ·rename_i e';rw[if_neg e']at h;exact h
section
variable {P : Program} {ops : Array Oper} {Q : Exit → Act → World → Prop} {w0 : World} {a0 : Act} {i : Nat} {o : Oper} {listed : Array Bool} {a : Act} {u : World} {D : Nat → Nat → Prop} {slots : List Nat} {vals : List Value} {ab st : Nat} {t : TypeId} {zs ws : List Value}
theorem boxRF.val(h:RInv ops (boxRF slots vals ab st t zs ws) w0 a0 listed a u D)(hr:∀e∈o.after,Region.binds .any e=true→listed.getD e.on false=true)(hn:listed.getD i false=false)(j:Nat)(hj:depB o j=true)(h1:j≠ab)(h2:j≠st){s:Nat}{v:Value}(hs:slots.getD j 0=s)(hv:vals.getD j undef=v):a.eval (.tmp s)=v:=by
 have hg:=(h.get hr hn j hj (.inl (if_neg h1))).1;simp only[boxRF]at hg;rw[if_neg h1,if_neg h2]at hg;rw[← hs,←hv];exact hg.1
theorem boxRF.pureStep(hg:o.guard=none)(s:Nat)(hd:o.dst=some s)(hsl:slots.getD i 0=s)(hin:s<a0.tmps.size)(h1:i≠ab)(h2:i≠st)(v:Value)(hv:vals.getD i undef=v)
 (h:∀listed a u D,RInv ops (boxRF slots vals ab st t zs ws) w0 a0 listed a u D→(∀ e∈o.after,Region.binds .any e=true→listed.getD e.on false=true)→listed.getD i false=false→(execOp a.eval o).run P u=.ok (.value v) u):RStep P ops Q (boxRF slots vals ab st t zs ws) w0 a0 i o:=
 RStep.pure hg s hd hsl hin fun listed a u D hI hr hn=>⟨v,h listed a u D hI hr hn,by
  simp only[boxRF];rw[if_neg h1,if_neg h2];exact pureF.new hv.symm⟩
theorem boxRF.callStep(hg:o.guard=none)(s:Nat)(hd:o.dst=some s)(hsl:slots.getD i 0=s)(hin:s<a0.tmps.size)(h1:i≠ab)(h2:i≠st)(v:Value)(hv:vals.getD i undef=v)
 (h:∀listed a u D,RInv ops (boxRF slots vals ab st t zs ws) w0 a0 listed a u D→(∀ e∈o.after,Region.binds .any e=true→listed.getD e.on false=true)→listed.getD i false=false→∃f args,(execOp a.eval o).run P u=.ok (.enter f args) u∧Calls P f args u fun e u'=>e=.returned v∧Below u.heap.size u u'):RStep P ops Q (boxRF slots vals ab st t zs ws) w0 a0 i o:=
 RStep.call hg s hd hsl hin fun listed a u D hI hr hn=>by
  obtain⟨f,args,e1,hc⟩:=h listed a u D hI hr hn;refine⟨f,args,e1,hc.mono ?_⟩;rintro e u' ⟨rfl,hb⟩;refine⟨v,fun _=>False,rfl,hI.old.trans (hb.mono hI.old.size),hb.size,fun b hlt _=>hb.block b hlt,fun b hd=>hd.elim,?_⟩;simp only[boxRF];rw[if_neg h1,if_neg h2];exact pureF.new hv.symm
theorem boxRF.allocStep(hg:o.guard=none)(s:Nat)(hd:o.dst=some s)(hsl:slots.getD ab 0=s)(hin:s<a0.tmps.size)
 (h:∀(a:Act) (u:World),(execOp a.eval o).run P u=.ok (.value (.pointer (some ⟨u.heap.size,0,none⟩))) (u.alloc (.cells zs.toArray t))):RStep P ops Q (boxRF slots vals ab st t zs ws) w0 a0 ab o:=
 RStep.val hg s hd hsl hin fun listed a u D hI hr hn=>⟨_,_,fun b=>b=u.heap.size,h a u,hI.old.alloc hI.old.size _,by simp,fun b hlt _=>Below.heap_alloc u _ b hlt,fun b hd=>.inr (by subst hd;simp),by
  simp only[boxRF,if_true];exact⟨_,rfl,Blk.new u _ _,fun b=>Iff.rfl⟩⟩
theorem boxRF.storeStep(hg:o.guard=none)(hd:o.dst=none){s:Nat}(hsl:slots.getD st 0=s)(hsa:slots.getD ab 0=s)(hne:st≠ab)(hdep:depB o ab=true)
 (h:∀listed a u D,RInv ops (boxRF slots vals ab st t zs ws) w0 a0 listed a u D→(∀ e∈o.after,Region.binds .any e=true→listed.getD e.on false=true)→listed.getD st false=false→∀g,a.eval (.tmp s)=.pointer (some ⟨g,0,none⟩)→Blk u g t zs→∃u',(execOp a.eval o).run P u=.ok .skip u'∧Only g u u'∧Blk u' g t ws):RStep P ops Q (boxRF slots vals ab st t zs ws) w0 a0 st o:=
 RStep.store hg hd fun listed a u D hI hr hn=>by
  have he:(boxRF slots vals ab st t zs ws).eater ab=some st:=by simp[boxRF]
  obtain⟨h1,hin⟩:=hI.get hr hn ab hdep (.inr he);simp only[boxRF,if_true]at h1;obtain⟨g,e1,hb,hD⟩:=h1;rw[hsa]at e1;have hg2:=hin g ((hD g).2 rfl);obtain⟨u',h2,h3,h4⟩:=h listed a u D hI hr hn g e1 hb;refine⟨u',fun b=>b=g,h2,hI.old.trans (h3.below.mono hg2.1),Nat.le_of_eq h3.size.symm,fun b _ hn2=>h3.other b fun e=>hn2 ab he (by rw[e];exact(hD g).2 rfl),fun b hd=>.inl ⟨ab,he,by rw[hd];exact(hD g).2 rfl⟩,?_⟩;simp only[boxRF,if_neg hne,if_true];refine⟨g,?_,h4,fun b=>Iff.rfl⟩;rw[hsl];exact e1
theorem boxRF.box{l:List Oper}(h:RInv l.toArray (boxRF slots vals ab st t zs ws) w0 a0 listed a u D)(hall:∀i,i<l.length→listed.getD i false=true)(hst:st<l.length)(hne:st≠ab){s:Nat}(hsl:slots.getD st 0=s):∃g,a.tmps.getD s undef=.pointer (some ⟨g,0,none⟩)∧Blk u g t ws:=by
 have h1:=h.fact st ⟨hall st hst,fun k hk=>by simp[boxRF,hne]at hk⟩;simp only[boxRF,if_neg hne,if_true]at h1;obtain⟨g,e1,hb,_⟩:=h1;rw[hsl]at e1;exact⟨g,e1,hb⟩
end
end Mem
end Go.Proofs.YtkpnmpjnpcjohaaGreat
