import Derived.SizedLaws
import Derived.ChangeOld
import Derived.ShutString
import Derived.JoinedCond
import Derived.Deep.Slices
import Derived.Test.YtkpnmpjnpcjohaaGreatJoined12
set_option maxRecDepth 100000
namespace Go.Proofs.YtkpnmpjnpcjohaaGreat
open ChangeShapes WideShapes ChangeAt RowKit Mem
namespace Frames
theorem own:ownKnob Tryz.prog.godebug=none:=by kernel_rfl
theorem laidOut:laidOutB Tryz.prog=true:=by kernel_rfl
theorem c_l:Tryz.prog.cellsOf 3=1:=by kernel_rfl
theorem q_K:Tryz.prog.bytesOf 3=8:=by kernel_rfl
theorem t_e{H:Type}(d:DataW H):1≤Rows.uptoBulk d:=by
 cases d with
 |lit l=>cases l<;>simp[Rows.uptoBulk]
 |_=>simp[Rows.uptoBulk]
theorem length_le{H:Type}(l:List (DataW H)):l.length≤Rows.uptoBulkAll l:=by
 induction l with
 |nil=>simp[Rows.uptoBulkAll]
 |cons x r ih=>have:=t_e x;simp only[Rows.uptoBulkAll,List.length_cons];omega
end Frames
namespace Frames
open Deep
theorem i_H:Tryz.prog.cellsOf 4=1:=by kernel_rfl
abbrev wfI(v:Int):Prop:=(Lit.int .i64 v).wf=true
section
variable {H : Type} {enc : TypeId × Value → H} {W : World} {n : Nat} {cs : List Value} {y : DataW H × List MemPlace}
theorem b_L{t:TypeId}{fs:Array Field}(ht:Tryz.prog.underlying t=some (.struct fs))(h:DataW.trod enc Tryz.prog W 0 (fun _=>true) true n t cs=some y):
 ∃(xs:List (DataW H×List MemPlace)) (k:Nat),y.1=.agg (xs.map (·.1))∧cs.length=Tryz.prog.cellsOf t∧xs.length=fs.size∧∀(i:Nat) (T:TypeId) (o:Nat),(fs[i]?).map (fun f=>(f.type,f.offset))=some (T,o)→∃z,xs[i]?=some z∧DataW.trod enc Tryz.prog W 0 (fun _=>true) true k T ((cs.drop o).take (Tryz.prog.cellsOf T))=some z:=by
 obtain⟨xs,k,_,rfl,hl,hlen,hf⟩:=DataW.trod_struct ht h;refine⟨xs,k,rfl,hl,hlen,fun i T o hT=>?_⟩;obtain⟨f,hi,e⟩:=Option.map_eq_some_iff.1 hT;injection e with e1 e2;subst e1;subst e2;have hlt:i<xs.length:=by rw[hlen];exact(Array.getElem?_eq_some_iff.1 hi).1
 exact⟨xs[i],List.getElem?_eq_getElem hlt,(hf i f hi).trans (List.getElem?_eq_getElem hlt)⟩
theorem c_b(h:DataW.trod enc Tryz.prog W 0 (fun _=>true) true n 3 cs=some y):∃v,cs=[.int .i64 v]∧wfI v:=by
 obtain⟨v,h1,_,h2⟩:=DataW.trod_int Tryz.underlying3 h;exact⟨v,h1,h2⟩
theorem o_p(h:DataW.trod enc Tryz.prog W 0 (fun _=>true) true n 4 cs=some y):∃v,cs=[.bool v]:=by
 obtain⟨v,h1,_⟩:=DataW.trod_bool Tryz.underlying4 h;exact⟨v,h1⟩
def d_q(d:DataW H)(cap:Nat):Prop:=d=.nil∧cap=0∨∃l m:List (DataW H),d=.slice l m∧l.length+m.length=cap
theorem l_B{X:Type}{t e:TypeId}{k:Nat}(G:DataW H→Prop)(hG:∀l m,y.1=.slice l m→∀d∈l,G d)(cells:X→List Value)(good:X→DataW H→Prop)(hk:∀x,(cells x).length=k)(hk0:0<k)(ht:Tryz.prog.underlying t=some (.slice e))(hC:Tryz.prog.cellsOf e=k)
 (hel:∀(n:Nat) (cs:List Value) (y:DataW H×List MemPlace),DataW.trod enc Tryz.prog W 0 (fun _=>true) true n e cs=some y→G y.1→∃x,cs=cells x∧good x y.1)
 (h:DataW.trod enc Tryz.prog W 0 (fun _=>true) true n t cs=some y):
 ∃(a:Option Addr) (len cap:Nat),cs=[.slice a len cap]∧len≤cap∧cap≤maxLen∧d_q y.1 cap∧∃(l:List X) (ds ms:List (DataW H)),Recs W W.heap.size a len k (l.flatMap cells)∧l.length=len∧(y.1=.nil∧ds=[]∨y.1=.slice ds ms)∧ds.length=len∧∀(i:Nat) x d,l[i]?=some x→ds[i]?=some d→good x d:=by
 rcases open_slice ht h with⟨rfl,rfl⟩|⟨a,len,cap,m,j,D,Pl,rfl,_,hl,hm,hmm,rfl,hi⟩
 ·exact⟨none,0,0,rfl,Nat.le_refl _,Nat.zero_le _,.inl ⟨rfl,rfl⟩,[],[],[],Recs.none_,rfl,.inl ⟨rfl,rfl⟩,rfl,fun i x d h=>by simp at h⟩
 ·simp only[if_true]at hmm
  subst hmm;refine⟨some a,len,m,rfl,hl,hm,.inr ⟨_,_,rfl,by simp;omega⟩,?_⟩;rw[hC]at hi
  have each:∀i,i<len→∃x:X,good x (D i)∧∀q u,(cells x)[q]?=some u→W.cell? (a.add (i*k+q))=some u:=by
   intro i him;obtain⟨cs',hc,hy⟩:=hi i (by omega);obtain⟨x,rfl,hg⟩:=hel _ _ _ hy (hG _ _ rfl _ (List.mem_map.2 ⟨i,List.mem_range.2 him,rfl⟩));obtain⟨_,_,hat⟩:=World.cells?_some hc;refine⟨x,hg,fun q u hu=>?_⟩;have hq:q<k:=by rw[← hk x];exact(List.getElem?_eq_some_iff.1 hu).1
   have:=hat q hq;rw[Go.Deep.add_add]at this;rw[this,hu]
  have pick:∀r,r≤len→∃xs:List X,xs.length=r∧(∀ (i:Nat) x,xs[i]?=some x→good x (D i))∧∀i x,xs[i]?=some x→∀q u,(cells x)[q]?=some u→W.cell? (a.add (i*k+q))=some u:=by
   intro r;induction r with
   |zero=>intro _;exact⟨[],rfl,fun i x hx=>by simp at hx,fun i x hx=>by simp at hx⟩
   |succ r ih=>
    intro hr;obtain⟨xs,h1,h2,h3⟩:=ih (by omega);obtain⟨z,hz,hz2⟩:=each r (by omega)
    have hnew:∀(i:Nat) x,(xs++[z])[i]?=some x→(xs[i]?=some x)∨(i=r∧x=z):=by
     intro i x hx;rcases Nat.lt_or_ge i xs.length with h'|h'
     ·rw[List.getElem?_append_left h']at hx
      exact .inl hx
     ·rw[List.getElem?_append_right h']at hx
      have hi0:i-xs.length=0:=by
       rcases Nat.eq_zero_or_pos (i-xs.length)with h0|h0
       ·exact h0
       ·rw[List.getElem?_eq_none (by simp;omega)]at hx;cases hx
      rw[hi0]at hx;simp at hx;exact .inr ⟨by omega,hx.symm⟩
    refine⟨xs++[z],by simp[h1],fun i x hx=>?_,fun i x hx=>?_⟩
    ·rcases hnew i x hx with h'|⟨rfl,rfl⟩
     ·exact h2 i x h'
     ·exact hz
    ·rcases hnew i x hx with h'|⟨rfl,rfl⟩
     ·exact h3 i x h'
     ·exact hz2
  obtain⟨xs,hxl,hxg,hxc⟩:=pick len (Nat.le_refl _)
  have hlen:∀l:List X,(l.flatMap cells).length=l.length*k:=by
   intro l;induction l with
   |nil=>simp
   |cons x r ih=>rw[List.flatMap_cons,List.length_append,ih,hk,List.length_cons,Nat.add_mul];omega
  have hat:∀(l:List X) (q:Nat) (u:Value),(l.flatMap cells)[q]?=some u→∃x,l[q/k]?=some x∧(cells x)[q%k]?=some u:=by
   intro l;induction l with
   |nil=>intro q u hu;simp at hu
   |cons x r ih=>
    intro q u hu;rw[List.flatMap_cons]at hu;rcases Nat.lt_or_ge q k with hq|hq
    ·rw[List.getElem?_append_left (by rw[hk];exact hq)]at hu
     rw[Nat.div_eq_of_lt hq,Nat.mod_eq_of_lt hq];exact⟨x,rfl,hu⟩
    ·rw[List.getElem?_append_right (by rw[hk];exact hq),hk]at hu
     obtain⟨x',h1,h2⟩:=ih _ u hu
     have e1:q/k=(q-k)/k+1:=by
      rw[Nat.div_eq_sub_div hk0 hq]
     have e2:q%k=(q-k)%k:=(Nat.mod_eq_sub_mod hq);rw[e1,e2];exact⟨x',by simpa using h1,h2⟩
  refine⟨xs,_,_,⟨by rw[hlen,hxl],by omega,fun hp=>?_⟩,hxl,.inr rfl,by simp,fun i x d hx hd=>by
   simp only[List.getElem?_map,Option.map_eq_some_iff]at hd;obtain⟨j',hj,rfl⟩:=hd
   have hj':j'=i:=by
    rw[List.getElem?_range (by rw[← hxl];exact(List.getElem?_eq_some_iff.1 hx).1)]at hj;exact(Option.some.inj hj).symm
   subst hj';exact hxg _ x hx⟩
  obtain⟨b,off,spot⟩:=a;obtain⟨x0,hx0⟩:∃x,xs[0]?=some x:=⟨_,List.getElem?_eq_getElem (by omega)⟩;obtain⟨u0,hu0⟩:∃u,(cells x0)[0]?=some u:=⟨_,List.getElem?_eq_getElem (by rw[hk];exact hk0)⟩;have hc:=hxc 0 x0 hx0 0 u0 hu0;have hspot:spot=none:=by simpa[Addr.add]using World.cell?_spot hc
  subst hspot;refine⟨b,off,rfl,?_,fun q u hu=>?_⟩
  ·have:=World.block_lt_of_cell? _ _ hc
   simpa[Addr.add]using this
  ·obtain⟨x,h1,h2⟩:=hat xs q u hu
   have:=hxc _ x h1 _ u h2;rw[b_n]at this;have e:q/k*k+q%k=q:=by rw[Nat.mul_comm];exact Nat.div_add_mod q k
   rw[e]at this;exact this
theorem f_P{X:Type}{t e:TypeId}{k:Nat}(cells:X→List Value)(good:X→Prop)(hk:∀x,(cells x).length=k)(hk0:0<k)(ht:Tryz.prog.underlying t=some (.slice e))(hC:Tryz.prog.cellsOf e=k)
 (hel:∀(n:Nat) (cs:List Value) (y:DataW H×List MemPlace),DataW.trod enc Tryz.prog W 0 (fun _=>true) true n e cs=some y→∃x,cs=cells x∧good x)
 (h:DataW.trod enc Tryz.prog W 0 (fun _=>true) true n t cs=some y):
 ∃(a:Option Addr) (len cap:Nat),cs=[.slice a len cap]∧len≤cap∧cap≤maxLen∧d_q y.1 cap∧∃l:List X,Recs W W.heap.size a len k (l.flatMap cells)∧l.length=len∧∀x∈l,good x:=
 by
  obtain⟨a,len,cap,e1,h1,h2,h3,l,ds,ms,h4,h5,h6,h7,h8⟩:=l_B (fun _=>True) (fun _ _ _ _ _=>trivial) cells (fun x _=>good x) hk hk0 ht hC (fun n cs y h _=>hel n cs y h) h;refine⟨a,len,cap,e1,h1,h2,h3,l,h4,h5,fun x hx=>?_⟩;obtain⟨i,hi⟩:=List.mem_iff_getElem?.1 hx;have hlt:i<ds.length:=by rw[h7,←h5];exact(List.getElem?_eq_some_iff.1 hi).1
  exact h8 i x _ hi (List.getElem?_eq_getElem hlt)
end
theorem o_q{H:Type}{ts:List TypeId}{ds:List (DataW H)}(h:(DataW.weightsEach Tryz.prog ts ds).all (·≤reachBytes)=true){j:Nat}{t:TypeId}{fs:Array Field}{parts:List (DataW H)}(ht:ts[j]?=some t)(hd:ds[j]?=some (.agg parts))(hu:Tryz.prog.underlying t=some (.struct fs)):
 (DataW.weightsEach Tryz.prog (fs.toList.map (·.type)) parts).all (·≤reachBytes)=true:=by
 rw[List.all_eq_true]at h ⊢;intro n hn;exact h n (DataW.weights_mem_each ht hd n (by simp[DataW.weights,hu];simpa using hn))
theorem f_z{H:Type}{ts:List TypeId}{ds:List (DataW H)}(h:(DataW.weightsEach Tryz.prog ts ds).all (·≤reachBytes)=true){j:Nat}{t e:TypeId}{d:DataW H}{cap:Nat}
 (ht:ts[j]?=some t) (hd:ds[j]?=some d) (hu:Tryz.prog.underlying t=some (.slice e)) (hi:d_q d cap):cap*Tryz.prog.bytesOf e≤140737488351232:=by
 rcases hi with⟨_,rfl⟩|⟨l,m,rfl,e⟩
 ·omega
 ·have:=sized_slice h ht hd hu
  rw[e]at this;simpa[reachBytes]using this
def Light{H:Type}(t:TypeId)(d:DataW H):Prop:=∀n∈d.weights Tryz.prog t,n≤reachBytes
theorem k_i{H:Type}{e:TypeId}{l:List (DataW H)}{d:DataW H}(hd:d∈l){n:Nat}(hn:n∈d.weights Tryz.prog e):n∈DataW.weightsAll Tryz.prog e l:=by
 induction l with
 |nil=>cases hd
 |cons x r ih=>
  rw[DataW.weightsAll,List.mem_append];rcases List.mem_cons.1 hd with rfl|hd
  ·exact .inl hn
  ·exact .inr (ih hd)
theorem Light.of{H:Type}{ts:List TypeId}{ds:List (DataW H)}(h:(DataW.weightsEach Tryz.prog ts ds).all (·≤reachBytes)=true){j:Nat}{t:TypeId}{d:DataW H}(ht:ts[j]?=some t)(hd:ds[j]?=some d):Light t d:=fun n hn=>by
 simpa using List.all_eq_true.1 h n (DataW.weights_mem_each ht hd n hn)
theorem Light.elem{H:Type}{t e:TypeId}{l m:List (DataW H)}(h:Light t (.slice l m))(hu:Tryz.prog.underlying t=some (.slice e)){d:DataW H}(hd:d∈l):Light e d:=fun n hn=>
 h n (by rw[DataW.weights,hu];exact List.mem_cons_of_mem _ (List.mem_append_left _ (k_i hd hn)))
theorem Light.size{H:Type}{t e:TypeId}{d:DataW H}{cap:Nat}(h:Light t d)(hu:Tryz.prog.underlying t=some (.slice e))(hi:d_q d cap):cap*Tryz.prog.bytesOf e≤140737488351232:=by
 rcases hi with⟨_,rfl⟩|⟨l,m,rfl,e1⟩
 ·omega
 ·have:=h ((l.length+m.length)*Tryz.prog.bytesOf e) (by rw[DataW.weights,hu];exact List.mem_cons_self)
  rw[e1]at this;simpa[reachBytes]using this
theorem Light.field{H:Type}{t T:TypeId}{fs:Array Field}{parts:List (DataW H)}{d:DataW H}{i:Nat}(h:Light t (.agg parts))(hu:Tryz.prog.underlying t=some (.struct fs))(hT:(fs[i]?).map (·.type)=some T)(hd:parts[i]?=some d):Light T d:=fun n hn=>by
 refine h n ?_;rw[DataW.weights,hu];refine DataW.weights_mem_each (j:=i) ?_ hd n hn;rw[List.getElem?_map,Array.getElem?_toList];exact hT
end Frames
namespace Frames
open Deep Rec FleetMath Keep
theorem h_T:Tryz.prog.cellsOf 27=2:=by kernel_rfl
theorem i_I:Tryz.prog.cellsOf 29=4:=by kernel_rfl
theorem h_U:Tryz.prog.cellsOf 31=10:=by kernel_rfl
theorem h_V:Tryz.prog.cellsOf 33=6:=by kernel_rfl
theorem m_A:Tryz.prog.cellsOf 55=5:=by kernel_rfl
theorem q_L:Tryz.prog.bytesOf 31=80:=by kernel_rfl
theorem q_M:Tryz.prog.bytesOf 33=48:=by kernel_rfl
section
variable {H : Type} {enc : TypeId × Value → H} {W : World} {n : Nat} {cs : List Value} {y : DataW H × List MemPlace}
def k_j(x:Win):Prop:=wfI x.fr∧wfI x.to
def h_W(s:Site):Prop:=wfI s.place∧k_j s.win∧wfI s.serv
def k_k(o:FleetMath.Ord):Prop:=wfI o.id∧wfI o.size∧h_W o.pick∧h_W o.drop
def k_l(d:Drv):Prop:=wfI d.id∧wfI d.room∧wfI d.home∧k_j d.win
theorem r_7(h:DataW.trod enc Tryz.prog W 0 (fun _=>true) true n 27 cs=some y):∃x:Win,cs=[.int .i64 x.fr,.int .i64 x.to]∧k_j x:=by
 obtain⟨xs,k,_,hl,_,hf⟩:=b_L Tryz.underlying27 h;rw[h_T]at hl;match cs,hl with
 |[c0,c1],_=>
  obtain⟨z0,_,h0⟩:=hf 0 3 0 rfl;obtain⟨z1,_,h1⟩:=hf 1 3 1 rfl;simp only[c_l]at h0 h1;obtain⟨v0,e0,w0⟩:=c_b h0;obtain⟨v1,e1,w1⟩:=c_b h1;simp at e0 e1;subst e0;subst e1;exact⟨⟨v0,v1⟩,rfl,w0,w1⟩
theorem o_r(h:DataW.trod enc Tryz.prog W 0 (fun _=>true) true n 29 cs=some y):∃s:Site,cs=[.int .i64 s.place,.int .i64 s.win.fr,.int .i64 s.win.to,.int .i64 s.serv]∧h_W s:=by
 obtain⟨xs,k,_,hl,_,hf⟩:=b_L Tryz.underlying29 h;rw[i_I]at hl;match cs,hl with
 |[c0,c1,c2,c3],_=>
  obtain⟨z0,_,h0⟩:=hf 0 3 0 rfl;obtain⟨z1,_,h1⟩:=hf 1 27 1 rfl;obtain⟨z2,_,h2⟩:=hf 2 3 3 rfl;simp only[c_l,h_T]at h0 h1 h2;obtain⟨v0,e0,w0⟩:=c_b h0;obtain⟨v1,e1,w1⟩:=r_7 h1;obtain⟨v2,e2,w2⟩:=c_b h2;simp at e0 e1 e2;obtain⟨e1,e1'⟩:=e1;subst e0;subst e1;subst e1';subst e2;exact⟨⟨v0,v1,v2⟩,rfl,w0,w1,w2⟩
theorem r_8(h:DataW.trod enc Tryz.prog W 0 (fun _=>true) true n 31 cs=some y):∃o:FleetMath.Ord,cs=[.int .i64 o.id,.int .i64 o.size,.int .i64 o.pick.place,.int .i64 o.pick.win.fr,.int .i64 o.pick.win.to,.int .i64 o.pick.serv,.int .i64 o.drop.place,.int .i64 o.drop.win.fr,.int .i64 o.drop.win.to,.int .i64 o.drop.serv]∧k_k o:=by
 obtain⟨xs,k,_,hl,_,hf⟩:=b_L Tryz.underlying31 h;rw[h_U]at hl;match cs,hl with
 |[c0,c1,c2,c3,c4,c5,c6,c7,c8,c9],_=>
  obtain⟨z0,_,h0⟩:=hf 0 3 0 rfl;obtain⟨z1,_,h1⟩:=hf 1 3 1 rfl;obtain⟨z2,_,h2⟩:=hf 2 29 2 rfl;obtain⟨z3,_,h3⟩:=hf 3 29 6 rfl;simp only[c_l,i_I]at h0 h1 h2 h3;obtain⟨v0,e0,w0⟩:=c_b h0;obtain⟨v1,e1,w1⟩:=c_b h1;obtain⟨v2,e2,w2⟩:=o_r h2;obtain⟨v3,e3,w3⟩:=o_r h3;simp at e0 e1 e2 e3;obtain⟨p0,p1,p2,p3⟩:=e2;obtain⟨q0,q1,q2,q3⟩:=e3;subst e0 e1 p0 p1 p2 p3 q0 q1 q2 q3;exact⟨⟨v0,v1,v2,v3⟩,rfl,w0,w1,w2,w3⟩
theorem r_9(h:DataW.trod enc Tryz.prog W 0 (fun _=>true) true n 33 cs=some y):∃d:Drv,cs=[.int .i64 d.id,.int .i64 d.room,.int .i64 d.home,.int .i64 d.win.fr,.int .i64 d.win.to,.bool d.retired]∧k_l d:=by
 obtain⟨xs,k,_,hl,_,hf⟩:=b_L Tryz.underlying33 h;rw[h_V]at hl;match cs,hl with
 |[c0,c1,c2,c3,c4,c5],_=>
  obtain⟨z0,_,h0⟩:=hf 0 3 0 rfl;obtain⟨z1,_,h1⟩:=hf 1 3 1 rfl;obtain⟨z2,_,h2⟩:=hf 2 3 2 rfl;obtain⟨z3,_,h3⟩:=hf 3 27 3 rfl;obtain⟨z4,_,h4⟩:=hf 4 4 5 rfl;simp only[c_l,h_T,i_H]at h0 h1 h2 h3 h4;obtain⟨v0,e0,w0⟩:=c_b h0;obtain⟨v1,e1,w1⟩:=c_b h1;obtain⟨v2,e2,w2⟩:=c_b h2;obtain⟨v3,e3,w3⟩:=r_7 h3;obtain⟨v4,e4⟩:=o_p h4;simp at e0 e1 e2 e3 e4;obtain⟨p0,p1⟩:=e3;subst e0 e1 e2 p0 p1 e4;exact⟨⟨v0,v1,v2,v3,v4⟩,rfl,w0,w1,w2,w3⟩
end
end Frames
namespace Frames
open Deep Rec FleetMath Keep
structure WdOk(W:World)(x:Wd)(zs:List Int)(vs:List Drv)(rs:List FleetMath.Ord):Prop where
 ts:Ints W W.heap.size x.ts.a x.ts.n zs
 ds:Drvs W W.heap.size x.ds.a x.ds.n vs
 os:Ords W W.heap.size x.os.a x.os.n rs
 tsn:x.ts.n*8≤140737488351232
 dsn:x.ds.n*48≤140737488351232
 osn:x.os.n*80≤140737488351232
 good:(∀ z∈zs,wfI z)∧(∀ d∈vs,k_l d)∧(∀ o∈rs,k_k o)∧wfI x.n
section
variable {H : Type} {enc : TypeId × Value → H} {W : World}
theorem s_z{n:Nat}{cs:List Value}{y:DataW H×List MemPlace}(h:DataW.trod enc Tryz.prog W 0 (fun _=>true) true n 53 cs=some y):
 ∃(a:Option Addr) (len cap:Nat),cs=[.slice a len cap]∧len≤cap∧d_q y.1 cap∧∃zs:List Int,Ints W W.heap.size a len zs∧∀z∈zs,wfI z:=by
 obtain⟨a,len,cap,rfl,h1,h2,h3,l,h4,h5,h6⟩:=f_P (k:=1) (fun v:Int=>[Value.int .i64 v]) wfI (fun _=>rfl) (by omega) Tryz.underlying53 c_l (fun n cs y h=>c_b h) h;refine⟨a,len,cap,rfl,h1,h3,l,?_,h6⟩;have e:l.flatMap (fun v:Int=>[Value.int .i64 v])=b_l l:=List.map_eq_flatMap.symm;rw[e]at h4;obtain⟨g1,g2,g3⟩:=h4;exact⟨by rw[g1,Nat.mul_one],g2,g3⟩
theorem m_B{r:Reach}{b0:Nat}{v:Value}{d:DataW H}{p:List MemPlace}(hv:Value.okWide Tryz.prog W r b0 55 v)(h:DataW.Trod enc Tryz.prog W 0 (fun _=>true) true 55 v d p)
 {ts:List TypeId} {ds:List (DataW H)} (hsz:(DataW.weightsEach Tryz.prog ts ds).all (·≤reachBytes)=true) {j:Nat} (ht:ts[j]?=some 55) (hd:ds[j]?=some d):
 ∃x:Wd,v=wdV x∧∃ts ds os,WdOk W x ts ds os:=by
 obtain⟨cs,rfl,_⟩:=okWide_struct Tryz.underlying55 hv;obtain⟨l⟩:=cs;obtain⟨fuel,hf⟩:=h;obtain⟨xs,k,hx,hl,hlen,hfs⟩:=b_L Tryz.underlying55 hf;rw[m_A]at hl;simp only at hx;subst hx;have hs:=o_q hsz ht hd Tryz.underlying55;simp only[Value.cells]at hl hfs;match l,hl with
 |[c0,c1,c2,c3,c4],_=>
  obtain⟨z0,_,h0⟩:=hfs 0 3 0 rfl;obtain⟨z1,x1,h1⟩:=hfs 1 53 1 rfl;obtain⟨z2,x2,h2⟩:=hfs 2 34 2 rfl;obtain⟨z3,x3,h3⟩:=hfs 3 40 3 rfl;obtain⟨z4,_,h4⟩:=hfs 4 39 4 rfl;simp only[c_l,show Tryz.prog.cellsOf 53=1 by kernel_rfl,show Tryz.prog.cellsOf 34=1 by kernel_rfl,show Tryz.prog.cellsOf 40=1 by kernel_rfl,show Tryz.prog.cellsOf 39=1 by kernel_rfl]at h0 h1 h2 h3 h4;obtain⟨v0,e0,w0⟩:=c_b h0;obtain⟨a1,n1,p1,e1,le1,s1,l1,i1,g1⟩:=s_z h1;obtain⟨a2,n2,p2,e2,le2,_,s2,l2,i2,_,g2⟩:=f_P (k:=6) (fun d:Drv=>[.int .i64 d.id,.int .i64 d.room,.int .i64 d.home,.int .i64 d.win.fr,.int .i64 d.win.to,.bool d.retired]) k_l (fun _=>rfl) (by omega) Tryz.underlying34 h_V (fun n cs y h=>r_9 h) h2;obtain⟨a3,n3,p3,e3,le3,_,s3,l3,i3,_,g3⟩:=f_P (k:=10) (fun o:FleetMath.Ord=>[.int .i64 o.id,.int .i64 o.size,.int .i64 o.pick.place,.int .i64 o.pick.win.fr,.int .i64 o.pick.win.to,.int .i64 o.pick.serv,.int .i64 o.drop.place,.int .i64 o.drop.win.fr,.int .i64 o.drop.win.to,.int .i64 o.drop.serv]) k_k (fun _=>rfl) (by omega) Tryz.underlying40 h_U (fun n cs y h=>r_8 h) h3
  have e4:∃a n c,c4=.slice a n c∧n≤c:=by
   rcases open_slice Tryz.underlying39 h4 with⟨e,_⟩|⟨a,n,c,_,_,_,_,e,_,hl,_⟩
   ·simp at e;exact⟨_,_,_,e,Nat.le_refl _⟩
   ·simp at e;exact⟨_,_,_,e,hl⟩
  obtain⟨a4,n4,p4,rfl,le4⟩:=e4;simp at e0 e1 e2 e3;subst e0 e1 e2 e3;have b1:=f_z (j:=1) (d:=z1.1) hs rfl (by simp[x1]) Tryz.underlying53 s1;have b2:=f_z (j:=2) (d:=z2.1) hs rfl (by simp[x2]) Tryz.underlying34 s2;have b3:=f_z (j:=3) (d:=z3.1) hs rfl (by simp[x3]) Tryz.underlying40 s3;rw[q_K]at b1;rw[q_M]at b2;rw[q_L]at b3;exact⟨⟨v0,⟨a1,n1,p1,le1⟩,⟨a2,n2,p2,le2⟩,⟨a3,n3,p3,le3⟩,⟨a4,n4,p4,le4⟩⟩,rfl,l1,l2,l3,i1,i2,i3,by simp only;omega,by simp only;omega,by simp only;omega,g1,g2,g3,w0⟩
end
end Frames
namespace Frames
open Deep Rec FleetMath
theorem l_C:Tryz.prog.cellsOf 48=2:=by kernel_rfl
theorem q_N:Tryz.prog.bytesOf 48=16:=by kernel_rfl
section
variable {H : Type} {enc : TypeId × Value → H} {W : World}
theorem t_f{n:Nat}{cs:List Value}{y:DataW H×List MemPlace}(h:DataW.trod enc Tryz.prog W 0 (fun _=>true) true n 48 cs=some y):∃x:Stp,cs=[.int .i64 x.ord,.bool x.drop]∧wfI x.ord:=by
 obtain⟨xs,k,_,hl,_,hf⟩:=b_L Tryz.underlying48 h;rw[l_C]at hl;match cs,hl with
 |[c0,c1],_=>
  obtain⟨z0,_,h0⟩:=hf 0 3 0 rfl;obtain⟨z1,_,h1⟩:=hf 1 4 1 rfl;simp only[c_l,i_H]at h0 h1;obtain⟨v0,e0,w0⟩:=c_b h0;obtain⟨v1,e1⟩:=o_p h1;simp at e0 e1;subst e0;subst e1;exact⟨⟨v0,v1⟩,rfl,w0⟩
end
end Frames
end Go.Proofs.YtkpnmpjnpcjohaaGreat
