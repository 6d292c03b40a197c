import Derived.Test.YtkpnmpjnpcjohaaGreatRegions
import Derived.Lib.AppendZerosOnto
set_option linter.unusedSimpArgs false
set_option linter.unusedVariables false
namespace Go.Proofs.YtkpnmpjnpcjohaaGreat
open ChangeShapes WideShapes ChangeAt RowKit
namespace Mem
structure FactD where
 at_:Nat
 eat:Option Nat
 fact:Value→(Nat→Prop)→World→Prop
def FactD.of(fs:List FactD)(i:Nat):Option FactD:=fs.find? fun x=>x.at_==i
def genRF(slots:List Nat)(vals:List Value)(fs:List FactD):RF:=
 ⟨fun k=>slots.getD k 0,fun k=>(FactD.of fs k).bind (·.eat),fun k v D u=>match FactD.of fs k with
   |some x=>x.fact v D u
   |none=>pureF (fun v=>v=vals.getD k undef) v D⟩
def MonF(f:Value→(Nat→Prop)→World→Prop):Prop:=∀v D u u',f v D u→(∀ b,D b→u'.heap[b]?=u.heap[b]?)→f v D u'
theorem r_I{base k n:Nat}{e:TypeId}{vs:List Value}:MonF (ownF base k e n vs):=fun _ _ _ _ h hk=>ownF.mon h hk
theorem i_g{sh:Nat→Value}{t:TypeId}{vs:List Value}:MonF (blkF sh t vs):=fun _ _ _ _ h hk=>blkF.mon h hk
section
variable {P : Program} {ops : Array Oper} {Q : Exit → Act → World → Prop} {w0 : World} {a0 : Act} {i : Nat} {o : Oper} {listed : Array Bool} {a : Act} {u : World} {D : Nat → Nat → Prop} {slots : List Nat} {vals : List Value} {fs : List FactD}
theorem FactD.mem{x:FactD}(h:FactD.of fs i=some x):x∈fs:=List.mem_of_find?_eq_some h
theorem genRF.mon(hm:∀x∈fs,MonF x.fact)(k:Nat)(v:Value)(D:Nat→Prop)(u u':World)(h:(genRF slots vals fs).fact k v D u)(hk:∀b,D b→u'.heap[b]?=u.heap[b]?):(genRF slots vals fs).fact k v D u':=by
 simp only[genRF]at h ⊢;cases hx:FactD.of fs k with
 |none=>rw[hx]at h;exact h
 |some x=>rw[hx]at h;exact hm x (FactD.mem hx) _ _ _ _ h hk
theorem genRF.free{n:Nat}(h:(fs.all fun x=>decide (x.at_<n))=true)(q:Nat)(hq:n≤q):(genRF slots vals fs).eater q=none:=by
 have:FactD.of fs q=none:=by
  unfold FactD.of;rw[List.find?_eq_none];intro b hb;have:=List.all_eq_true.1 h b hb;simp at this ⊢;omega
 simp only[genRF];rw[this];rfl
theorem genRF.plain(h:FactD.of fs i=none){v:Value}(hv:vals.getD i undef=v):(genRF slots vals fs).fact i v (fun _=>False) u:=by
 simp only[genRF];rw[h];exact pureF.new hv.symm
theorem genRF.told{x:FactD}(h:FactD.of fs i=some x){v:Value}{D':Nat→Prop}(hf:x.fact v D' u):(genRF slots vals fs).fact i v D' u:=by
 simp only[genRF];rw[h];exact hf
theorem genRF.val(h:RInv ops (genRF slots vals fs) w0 a0 listed a u D)(hr:∀e∈o.after,Region.binds .any e=true→listed.getD e.on false=true)(hn:listed.getD i false=false)(j:Nat)(hj:depB o j=true)(hp:FactD.of fs j=none){s:Nat}{v:Value}(hs:slots.getD j 0=s)(hv:vals.getD j undef=v):a.eval (.tmp s)=v:=by
 have hg:=(h.get hr hn j hj (.inl (by simp only[genRF];rw[hp];rfl))).1;simp only[genRF]at hg;rw[hp]at hg;rw[← hs,←hv];exact hg.1
theorem genRF.get(h:RInv ops (genRF slots vals fs) w0 a0 listed a u D)(hr:∀e∈o.after,Region.binds .any e=true→listed.getD e.on false=true)(hn:listed.getD i false=false)(j:Nat)(hj:depB o j=true){x:FactD}(hx:FactD.of fs j=some x)(he:x.eat=none∨x.eat=some i){s:Nat}(hs:slots.getD j 0=s):
 x.fact (a.tmps.getD s undef) (D j) u∧∀b,D j b→w0.heap.size≤b∧b<u.heap.size:=by
 have hg:=h.get hr hn j hj (by simp only[genRF];rw[hx];exact he);simp only[genRF]at hg;rw[hx,hs]at hg;exact hg
theorem genRF.eats{x:FactD}{j:Nat}(hx:FactD.of fs j=some x)(he:x.eat=some i):(genRF slots vals fs).eater j=some i:=by
 simp only[genRF];rw[hx];exact he
theorem genRF.far(h:RInv ops (genRF slots vals fs) w0 a0 listed a u D)(hr:∀e∈o.after,Region.binds .any e=true→listed.getD e.on false=true)(hn:listed.getD i false=false)(j k:Nat)(hj:depB o j=true)(hk:depB o k=true){x y:FactD}(hx:FactD.of fs j=some x)(hy:FactD.of fs k=some y)(he:x.eat=none∨x.eat=some i)(he':y.eat=none∨y.eat=some i)(hne:j≠k):
 ∀b,D j b→¬D k b:=
 h.far hr hn j k hj hk (by simp only[genRF];rw[hx];exact he) (by simp only[genRF];rw[hy];exact he') hne
theorem genRF.pureStep(hg:o.guard=none)(s:Nat)(hd:o.dst=some s)(hsl:slots.getD i 0=s)(hin:s<a0.tmps.size)(hp:FactD.of fs i=none)(v:Value)(hv:vals.getD i undef=v)
 (h:∀listed a u D,RInv ops (genRF slots vals fs) w0 a0 listed a u D→(∀ e∈o.after,Region.binds .any e=true→listed.getD e.on false=true)→listed.getD i false=false→(execOp a.eval o).run P u=.ok (.value v) u):RStep P ops Q (genRF slots vals fs) w0 a0 i o:=
 RStep.pure hg s hd hsl hin fun listed a u D hI hr hn=>⟨v,h listed a u D hI hr hn,genRF.plain hp hv⟩
theorem genRF.callF(hg:o.guard=none)(s:Nat)(hd:o.dst=some s)(hsl:slots.getD i 0=s)(hin:s<a0.tmps.size){x:FactD}(hx:FactD.of fs i=some x)
 (h:∀listed a u D,RInv ops (genRF slots vals fs) w0 a0 listed a u D→(∀ e∈o.after,Region.binds .any e=true→listed.getD e.on false=true)→listed.getD i false=false→∃f args,(execOp a.eval o).run P u=.ok (.enter f args) u∧Calls P f args u fun en u'=>∃v D',en=.returned v∧Below u.heap.size u u'∧(∀ b,D' b→u.heap.size≤b∧b<u'.heap.size)∧x.fact v D' u'):RStep P ops Q (genRF slots vals fs) w0 a0 i o:=
 RStep.call hg s hd hsl hin fun listed a u D hI hr hn=>by
  obtain⟨f,args,e1,hc⟩:=h listed a u D hI hr hn;refine⟨f,args,e1,hc.mono ?_⟩;rintro en u' ⟨v,D',rfl,hb,hn',hf⟩;exact⟨v,D',rfl,hI.old.trans (hb.mono hI.old.size),hb.size,fun b hlt _=>hb.block b hlt,fun b hd=>.inr (hn' b hd),genRF.told hx hf⟩
theorem genRF.valF(hg:o.guard=none)(s:Nat)(hd:o.dst=some s)(hsl:slots.getD i 0=s)(hin:s<a0.tmps.size){x:FactD}(hx:FactD.of fs i=some x)
 (h:∀listed a u D,RInv ops (genRF slots vals fs) w0 a0 listed a u D→(∀ e∈o.after,Region.binds .any e=true→listed.getD e.on false=true)→listed.getD i false=false→∃v D',(execOp a.eval o).run P u=.ok (.value v) u∧(∀ b,D' b→∃j,(genRF slots vals fs).eater j=some i∧D j b)∧x.fact v D' u):RStep P ops Q (genRF slots vals fs) w0 a0 i o:=
 RStep.val hg s hd hsl hin fun listed a u D hI hr hn=>by
  obtain⟨v,D',h1,h2,h3⟩:=h listed a u D hI hr hn;exact⟨v,u,D',h1,hI.old,Nat.le_refl _,fun _ _ _=>rfl,fun b hb=>.inl (h2 b hb),genRF.told hx h3⟩
theorem genRF.newF(hg:o.guard=none)(s:Nat)(hd:o.dst=some s)(hsl:slots.getD i 0=s)(hin:s<a0.tmps.size){x:FactD}(hx:FactD.of fs i=some x){ob:World→Obj}{v:Nat→Value}
 (h:∀listed a u D,RInv ops (genRF slots vals fs) w0 a0 listed a u D→(∀ e∈o.after,Region.binds .any e=true→listed.getD e.on false=true)→listed.getD i false=false→(execOp a.eval o).run P u=.ok (.value (v u.heap.size)) (u.alloc (ob u))∧x.fact (v u.heap.size) (fun b=>b=u.heap.size) (u.alloc (ob u))):RStep P ops Q (genRF slots vals fs) w0 a0 i o:=
 RStep.val hg s hd hsl hin fun listed a u D hI hr hn=>by
  obtain⟨h1,h2⟩:=h listed a u D hI hr hn;exact⟨_,_,fun b=>b=u.heap.size,h1,hI.old.alloc hI.old.size _,by simp,fun b hlt _=>Below.heap_alloc u _ b hlt,fun b hd=>.inr (by subst hd;simp),genRF.told hx h2⟩
end
end Mem
namespace Mem
def endB(ops:Array Oper)(z:Nat):Bool:=(List.range ops.size).all fun i=>decide (i<z) || (match ops[i]? with
 |none=>true
 |some o=>(List.range i).all fun j=>depB o j)
def d_D(P:Program)(Q:Exit→Act→World→Prop):List Oper→Act→World→Prop
 |[],a,u=>Q .normal a u
 |o::r,a,u=>∀K:Act→World→Prop,(∀ a' u',d_D P Q r a' u'→K a' u')→Oper.wp P o a u K Q
section
variable {P : Program} {Q : Exit → Act → World → Prop} {a0 : Act}
theorem l_Y{ops:Array Oper}(htop:∀(i:Nat) (o:Oper),ops[i]?=some o→∀e∈o.after,Region.binds .any e=true→e.on<i):
 ∀(ix:List Nat) (fuel:Nat) (t:List Oper) (listed:Array Bool) (a:Act) (u:World),listed.size=ops.size→ix.length≤fuel→t.length=ix.length→(∀ (n i:Nat),ix[n]?=some i→∃o,ops[i]?=some o∧t[n]?=some o∧o.guard=none)→(ix.Pairwise fun i j=>i≠j∧∀o,ops[j]?=some o→depB o i=true)→(∀ j,j<ops.size→(listed.getD j false=false↔j∈ix))→d_D P Q t a u→wpAny P .any ops Q fuel listed a u:=by
 intro ix;induction ix with
 |nil=>
  intro fuel t listed a u hs hl htl hget hp hlst hw;have e:t=[]:=List.eq_nil_of_length_eq_zero (by simpa using htl);subst e
  have hnil:Region.ready .any ops listed=[]:=List.eq_nil_iff_forall_not_mem.2 fun i hi=>by
   obtain⟨h0,oi,ho,_⟩:=mem_ready.1 hi;have hlti:=(Array.getElem?_eq_some_iff.1 ho).1
   have h1:listed.getD i false=true:=by
    cases hx:listed.getD i false with
    |true=>rfl
    |false=>have:=(hlst i hlti).1 hx;cases this
   have hlt':i<listed.size:=by rw[hs];exact hlti
   simp[hlt']at h0 h1;rw[h0]at h1;cases h1
  cases fuel with
  |zero=>exact⟨hnil,hw⟩
  |succ fuel=>exact⟨fun _=>hw,fun i hi=>by rw[hnil]at hi;cases hi⟩
 |cons x r ih=>
  intro fuel t listed a u hs hl htl hget hp hlst hw;cases fuel with
  |zero=>simp at hl
  |succ fuel=>
  obtain⟨ox,hox,htx,hgx⟩:=hget 0 x rfl;have hxl:=(Array.getElem?_eq_some_iff.1 hox).1;have hxn:=(hlst x hxl).2 (List.mem_cons_self ..)
  obtain⟨t',et⟩:∃t',t=ox::t':=by
   cases t with
   |nil=>cases htx
   |cons y t'=>simp at htx;subst htx;exact⟨t',rfl⟩
  subst et;obtain⟨hp1,hp2⟩:=List.pairwise_cons.1 hp;refine⟨fun hr=>?_,fun i hi=>?_⟩
  ·have:=c_r htop hs hr x hxl
   rw[hxn]at this;cases this
  ·obtain⟨h0,oi,ho,hr⟩:=mem_ready.1 hi
   have hlti:=(Array.getElem?_eq_some_iff.1 ho).1;have hlt':i<listed.size:=by rw[hs];exact hlti
   have hn:listed.getD i false=false:=by simpa[hlt']using h0
   have hix:i=x:=by
    rcases List.mem_cons.1 ((hlst i hlti).1 hn)with h1|h1
    ·exact h1
    ·obtain⟨e,he,e1,e2⟩:=a_4 ((hp1 i h1).2 oi ho)
     have:=hr e he e2;rw[e1,hxn]at this;cases this
   subst hix;rw[hox]at ho;injection ho with ho;subst ho;refine wpOp_step hox fun K' hK=>?_;rw[if_pos (by simp[Region.wanted,hgx])];refine hw K' fun a' u' hq=>hK _ _ (ih fuel t' _ a' u' (by simpa using hs) (by simpa using hl) (by simpa using htl) (fun n j hj=>hget (n+1) j hj) hp2 (fun j hj=>?_) hq);by_cases e:j=i
   ·subst e
    constructor
    ·intro hf;simp[hlt']at hf
    ·intro hm;exact absurd rfl (hp1 j hm).1
   ·rw[getD_set_ne false (Ne.symm e),hlst j hj]
    simp[e]
def s_T(ops:Array Oper)(z p:Nat):Bool:=(List.range ops.size).all fun i=>decide (i<z) || (match ops[i]? with
 |none=>true
 |some o=>o.guard.isNone && (List.range i).all fun j=>depB o j || (decide (i=z) && decide (j=p)))
theorem b_4{ops:Array Oper}{z p i:Nat}{o:Oper}(h:s_T ops z p=true)(hi:z≤i)(ho:ops[i]?=some o):o.guard=none∧∀j,j<i→depB o j=true∨(i=z∧j=p):=by
 have h1:=List.all_eq_true.1 h i (List.mem_range.2 (Array.getElem?_eq_some_iff.1 ho).1);rw[ho]at h1;simp only[Bool.or_eq_true,decide_eq_true_eq,Bool.and_eq_true]at h1;rcases h1 with h1|⟨h1,h2⟩
 ·omega
 ·refine⟨by simpa using h1,fun j hj=>?_⟩
  have:=List.all_eq_true.1 h2 j (List.mem_range.2 hj);simpa using this
theorem g_t{id:Nat}{w:World}{L l t:List Oper}{o op:Oper}(p:Nat)(hL:L=l++o::t)(hpo:l[p]?=some op)(R:RF)(hm:P.follows .mixedOrders=true)(h1:topB L.toArray=true)(h2:k_H L.toArray R.slot=true)(h3:∀j,L.length≤j→R.eater j=none)(h4:eatB L.toArray R.eater=true)(h5:s_T L.toArray l.length p=true)(h6:op.guard=none)
 (hmon:∀i v D u u',R.fact i v D u→(∀ b,D b→u'.heap[b]?=u.heap[b]?)→R.fact i v D u')
 (hs:StepsFrom P L.toArray Q R w.drew a0 0 l)
 (hlast:∀(lt:Bool) listed a u D,RInv L.toArray R w.drew a0 listed a u D→(∀ i,i<l.length→i≠p→listed.getD i false=true)→(∀ e∈o.after,Region.binds .any e=true→listed.getD e.on false=true)→listed.getD l.length false=false→(lt=false→listed.getD p false=true)→d_D P Q (o::(if lt then op::t else t)) a u):(Code.region id L.toArray true).wp P Q a0 w:=by
 subst hL;have htop:=f_5 h1;have hslot:=e_r h2;have heat:=f_6 (by simpa using h3) h4;have hsz:(l++o::t).toArray.size=l.length+1+t.length:=by simp;omega
 have hoz:(l++o::t).toArray[l.length]?=some o:=by simp
 have hpl:p<l.length:=(List.getElem?_eq_some_iff.1 hpo).1;have hpp:(l++o::t).toArray[p]?=some op:=by simp[List.getElem?_append_left hpl,hpo]
 have htt:∀n,(l++o::t).toArray[l.length+1+n]?=t[n]? :=fun n=>by
  simp only[List.getElem?_toArray];rw[List.getElem?_append_right (by omega),show l.length+1+n-l.length=n+1 by omega];rfl
 have hpre:∀(i:Nat) (oi:Oper),i<l.length→(l++o::t).toArray[i]?=some oi→l[i]?=some oi:=fun i oi hi ho=>by
  simpa[List.getElem?_append_left hi]using ho
 obtain⟨ops,hops⟩:∃ops,(l++o::t).toArray=ops:=⟨_,rfl⟩;rw[hops]at hs hlast hsz hoz htop hslot heat h5 hpp htt hpre ⊢;refine wp_region_any hm ?_
 have main:∀(fuel:Nat) (listed:Array Bool) (a:Act) (u:World) (D:Nat→Nat→Prop),listed.toList.countP (fun b=>!b)≤fuel→RInv ops R w.drew a0 listed a u D→(∀ j,l.length≤j→listed.getD j false=false)→wpAny P .any ops Q fuel listed a u:=by
  intro fuel;induction fuel with
  |zero=>
   intro listed a u D hc hI hz;exfalso;have h0:=List.countP_eq_zero.1 (Nat.le_zero.1 hc);have hlt:l.length<listed.size:=by rw[hI.size,hsz];omega
   have:=h0 listed[l.length] (by simp);have hz0:=hz l.length (Nat.le_refl _);simp[hlt]at hz0;rw[hz0]at this;simp at this
  |succ fuel ih=>
   intro listed a u D hc hI hz;refine⟨fun hr=>?_,fun i hi=>?_⟩
   ·have:=c_r htop hI.size hr l.length (by rw[hsz];omega)
    rw[hz _ (Nat.le_refl _)]at this;cases this
   obtain⟨h0,oi,ho,hr⟩:=mem_ready.1 hi;have hlt:=(Array.getElem?_eq_some_iff.1 ho).1;have hlt':i<listed.size:=by rw[hI.size];exact hlt
   have hn:listed.getD i false=false:=by simpa[hlt']using h0
   rcases Nat.lt_or_ge i l.length with hil|hil
   ·refine wpOp_step ho fun K' hK=>?_
    have hst:=hs.at_ (hpre i oi hil ho);rw[Nat.zero_add]at hst;refine hst listed a u D hI hr hn K' fun v u' D' hp=>hK _ _ ?_;refine ih _ _ _ _ ?_ (hI.next hslot heat hmon ho hn hr hp) ?_
    ·have hb:listed[i]=false:=by simpa[hlt']using hn
     rw[Array.toList_setIfInBounds,List.countP_set (by simpa using hlt')];simp[hb];have hpos:0<listed.toList.countP (fun b=>!b):=List.countP_pos_iff.2 ⟨listed[i],by simp,by simp[hb]⟩;rw[Array.countP_toList]at hc hpos;omega
    ·intro j hj
     rw[getD_set_ne false (by omega)];exact hz j hj
   ·have hiz:i=l.length:=by
     rcases Nat.lt_or_ge l.length i with h7|h7
     ·rcases(b_4 h5 hil ho).2 l.length h7 with h8|h8
      ·obtain⟨e,he,e1,e2⟩:=a_4 h8
       have:=hr e he e2;rw[e1,hz _ (Nat.le_refl _)]at this;cases this
      ·omega
     ·omega
    subst hiz;rw[hoz]at ho;injection ho with ho;subst ho
    have hall:∀j,j<l.length→j≠p→listed.getD j false=true:=fun j hj hjp=>by
     rcases(b_4 h5 (Nat.le_refl _) hoz).2 j hj with h8|h8
     ·obtain⟨e,he,e1,e2⟩:=a_4 h8
      rw[← e1];exact hr e he e2
     ·exact absurd h8.2 hjp
    refine wpOp_step hoz fun K' hK=>?_;rw[if_pos (by simp[Region.wanted,(b_4 h5 (Nat.le_refl _) hoz).1])];obtain⟨lt,hlt2⟩:∃b:Bool,listed.getD p false=!b:=⟨!listed.getD p false,by simp⟩;have hw:=hlast lt listed a u D hI hall hr hn (fun e=>by rw[hlt2,e];rfl);have htsz:∀n,n<t.length→l.length+1+n<ops.size:=fun n h=>by rw[hsz];omega
    have hwait:∀(x y:Nat) (oy:Oper),l.length<y→x<y→ops[y]?=some oy→depB oy x=true:=fun x y oy hy hxy hoy=>by
     rcases(b_4 h5 (Nat.le_of_lt hy) hoy).2 x hxy with h8|h8
     ·exact h8
     ·omega
    have hcount:((if lt then [p]else [])++(List.range t.length).map fun n=>l.length+1+n).length≤fuel:=by
     have hpos:t.length+1≤(listed.toList.drop l.length).countP (fun b=>!b):=by
      have hd:(listed.toList.drop l.length).countP (fun b=>!b)=(listed.toList.drop l.length).length:=by
       rw[List.countP_eq_length];intro b hb;obtain⟨j,hj⟩:=List.mem_iff_getElem?.1 hb;rw[List.getElem?_drop]at hj;have hz0:=hz (l.length+j) (by omega);have hj':listed[l.length+j]?=some b:=by simpa using hj
       simp[Array.getD_eq_getD_getElem?,hj']at hz0;rw[hz0];rfl
      rw[hd,List.length_drop];have:listed.toList.length=l.length+1+t.length:=by have:=hI.size;rw[hsz]at this;simpa using this
      omega
     have e:listed.toList=listed.toList.take l.length++listed.toList.drop l.length:=(List.take_append_drop _ _).symm;rw[e,List.countP_append]at hc
     have hpc:(if lt then 1 else 0)≤(listed.toList.take l.length).countP (fun b=>!b):=by
      cases lt with
      |false=>exact Nat.zero_le _
      |true=>
       refine List.countP_pos_iff.2 ⟨false,?_,rfl⟩;have hps:p<listed.size:=by rw[hI.size,hsz];omega
       refine List.mem_iff_getElem?.2 ⟨p,?_⟩;rw[List.getElem?_take,if_pos hpl];have:listed[p]=false:=by simpa[hps]using hlt2
       simp[hps,this]
     rw[List.length_append,List.length_map,List.length_range];have hif:(if lt then [p]else([]:List Nat)).length=if lt then 1 else 0:=by cases lt<;>rfl
     rw[hif];omega
    refine hw K' fun a' u' hq=>hK _ _ (l_Y htop _ fuel _ _ a' u' (by simpa using hI.size) hcount ?_ ?_ ?_ ?_ hq)
    ·cases lt<;>simp
    ·intro n i hi
     have tail:∀n i,((List.range t.length).map fun n=>l.length+1+n)[n]?=some i→∃o:Oper,ops[i]?=some o∧t[n]?=some o∧o.guard=none:=fun n i hi=>by
      rw[List.getElem?_map]at hi;cases hx:(List.range t.length)[n]? with
      |none=>rw[hx]at hi;cases hi
      |some k=>
       rw[hx]at hi;injection hi with hi;have hk:=List.getElem?_range (n:=t.length) (i:=n) (by have:=(List.getElem?_eq_some_iff.1 hx).1;simpa using this);rw[hk]at hx;injection hx with hx;subst hx;subst hi
       have hnl:n<t.length:=by
        rcases Nat.lt_or_ge n t.length with h|h
        ·exact h
        ·rw[List.getElem?_eq_none (by simpa using h)]at hk;cases hk
       obtain⟨ot,hot⟩:∃ot,t[n]?=some ot:=⟨_,List.getElem?_eq_getElem hnl⟩;have h9:=(htt n).trans hot;exact⟨ot,h9,hot,(b_4 h5 (by omega) h9).1⟩
     cases lt with
     |false=>exact tail n i hi
     |true=>
      cases n with
      |zero=>simp at hi;subst hi;exact⟨op,hpp,rfl,h6⟩
      |succ n=>exact tail n i hi
    ·have tail:((List.range t.length).map fun n=>l.length+1+n).Pairwise fun i j=>i≠j∧∀o,ops[j]?=some o→depB o i=true:=by
      rw[List.pairwise_map];exact List.pairwise_lt_range.imp fun h=>⟨by omega,fun oy hoy=>hwait _ _ oy (by omega) (by omega) hoy⟩
     cases lt with
     |false=>exact tail
     |true=>
      refine List.pairwise_cons.2 ⟨fun j hj=>?_,tail⟩;obtain⟨n,_,rfl⟩:=List.mem_map.1 hj;exact⟨by omega,fun oy hoy=>hwait _ _ oy (by omega) (by omega) hoy⟩
    ·intro j hj
     have hmem:j∈((if lt then [p]else [])++(List.range t.length).map fun n=>l.length+1+n)↔(lt=true∧j=p)∨(l.length<j∧j<ops.size):=by
      rw[List.mem_append,List.mem_map,hsz];refine or_congr ?_ ⟨?_,?_⟩
      ·cases lt<;>simp
      ·rintro⟨n,hn',rfl⟩;have:=List.mem_range.1 hn';omega
      ·rintro⟨h8,h9⟩;exact⟨j-(l.length+1),List.mem_range.2 (by omega),by omega⟩
     rw[hmem];by_cases e:j=l.length
     ·subst e
      constructor
      ·intro hf;simp[hlt']at hf
      ·rintro(⟨_,h8⟩|h8)<;>omega
     ·rw[getD_set_ne false (Ne.symm e)]
      rcases Nat.lt_or_ge j l.length with h8|h8
      ·by_cases ejp:j=p
       ·subst ejp
        rw[hlt2];constructor
        ·intro hf;exact .inl ⟨by simpa using hf,rfl⟩
        ·rintro(⟨h9,_⟩|h9)
         ·rw[h9];rfl
         ·omega
       ·rw[hall j h8 ejp]
        constructor
        ·intro hf;cases hf
        ·rintro(⟨_,h9⟩|h9)
         ·exact absurd h9 ejp
         ·omega
      ·rw[hz j h8]
       exact⟨fun _=>.inr ⟨by omega,hj⟩,fun _=>rfl⟩
 refine main ops.size _ a0 _ (fun _ _=>False) ?_ ?_ ?_
 ·refine Nat.le_trans List.countP_le_length ?_
  simp
 ·refine⟨by simp,fun i o _ hl=>?_,rfl,rfl,fun _ _=>rfl,Below.refl _ _,fun i hl=>?_,fun i b hl=>?_,fun i j b _ hl=>?_⟩
  all_goals
   exfalso
   first
    |(have:=hl.1;simp[Array.getElem?_replicate]at this;done)
    |(have:=hl.1;simp[Array.getElem?_replicate]at this;split at this<;>simp at this)
    |(simp[Array.getElem?_replicate]at hl;done)
    |(simp[Array.getElem?_replicate]at hl;split at hl<;>simp at hl)
 ·intro j hj
  simp[Array.getElem?_replicate];try (split<;>rfl)
structure DerD where
 at_:Nat
 si:Nat
 sj:Nat
 F:Value→Value
def DerE(ds:List DerD)(listed:Array Bool)(a:Act):Prop:=∀p∈ds,listed.getD p.at_ false=true→a.tmps.getD p.si undef=p.F (a.tmps.getD p.sj undef)
def derB(ops:Array Oper)(ds:List DerD):Bool:=(List.range ops.size).all fun i=>match ops[i]? with
 |none=>true
 |some o=>ds.all fun p=>if p.at_=i then(o.dst==some p.si) && !(o.dst==some p.sj)else !(o.dst==some p.si) && (!(o.dst==some p.sj) || (match ops[p.at_]? with|none=>true|some q=>depB q i))
theorem DerE.next{ops:Array Oper}{R:RF}{w0 u:World}{listed:Array Bool}{a:Act}{D:Nat→Nat→Prop}{ds:List DerD}{i:Nat}{o:Oper}{v:Value}(hE:DerE ds listed a)(hb:derB ops ds=true)(hsz:∀p∈ds,p.si<a0.tmps.size∧p.at_<ops.size)(hI:RInv ops R w0 a0 listed a u D)(ho:ops[i]?=some o)(hn:listed.getD i false=false)(hv:∀p∈ds,p.at_=i→v=p.F (a.tmps.getD p.sj undef)):DerE ds (listed.setIfInBounds i true) (a.put o.dst v):=by
 intro p hp hl;have h1:=List.all_eq_true.1 hb i (List.mem_range.2 (Array.getElem?_eq_some_iff.1 ho).1);rw[ho]at h1;have h2:=List.all_eq_true.1 h1 p hp;by_cases e:p.at_=i
 ·rw[if_pos e]at h2
  simp only[Bool.and_eq_true,Bool.not_eq_true',beq_iff_eq,beq_eq_false_iff_ne]at h2;obtain⟨h3,h4⟩:=h2;rw[e_q h4,h3,←hv p hp e];have:=(hsz p hp).1;simp[Act.put,hI.tsz,this]
 ·rw[if_neg e]at h2
  simp only[Bool.and_eq_true,Bool.or_eq_true,Bool.not_eq_true',beq_eq_false_iff_ne]at h2;obtain⟨h3,h4⟩:=h2;have hl':listed.getD p.at_ false=true:=(e_U hl).resolve_left e;rw[e_q h3];rcases h4 with h4|h4
  ·rw[e_q h4];exact hE p hp hl'
  ·obtain⟨q,hq⟩:∃q,ops[p.at_]?=some q:=⟨_,Array.getElem?_eq_getElem (hsz p hp).2⟩
   rw[hq]at h4;obtain⟨ed,he,e1,e2⟩:=a_4 h4;have:=hI.down _ q hq hl' ed he e2;rw[e1,hn]at this;cases this
def RStepD(P:Program)(ops:Array Oper)(Q:Exit→Act→World→Prop)(R:RF)(ds:List DerD)(w0:World)(a0:Act)(i:Nat)(o:Oper):Prop:=
 ∀listed a u D,RInv ops R w0 a0 listed a u D→DerE ds listed a→(∀ e∈o.after,Region.binds .any e=true→listed.getD e.on false=true)→listed.getD i false=false→∀K:Act→World→Prop,(∀ v u' D',k_G R w0 o i a u D v u' D'→(∀ p∈ds,p.at_=i→v=p.F (a.tmps.getD p.sj undef))→K (a.put o.dst v) u')→if Region.wanted o (yielded ops a.tmps)=true then Oper.wp P o a u K Q else K (a.put o.dst undef) u
theorem RStep.plainD{ops:Array Oper}{R:RF}{ds:List DerD}{w0:World}{i:Nat}{o:Oper}(hno:(ds.all fun p=>!(p.at_==i))=true)(h:RStep P ops Q R w0 a0 i o):RStepD P ops Q R ds w0 a0 i o:=
 fun listed a u D hI _ hr hn K hK=>h listed a u D hI hr hn K fun v u' D' hp=>hK v u' D' hp fun p hpm e=>by
  have:=List.all_eq_true.1 hno p hpm;simp[e]at this
theorem RStepD.val{ops:Array Oper}{R:RF}{ds:List DerD}{w0:World}{i:Nat}{o:Oper}(hg:o.guard=none)(t:Nat)(hd:o.dst=some t)(hsl:R.slot i=t)(hin:t<a0.tmps.size)
 (h:∀listed a u D,RInv ops R w0 a0 listed a u D→DerE ds listed a→(∀ e∈o.after,Region.binds .any e=true→listed.getD e.on false=true)→listed.getD i false=false→∃v,(execOp a.eval o).run P u=.ok (.value v) u∧R.fact i v (fun _=>False) u∧∀p∈ds,p.at_=i→v=p.F (a.tmps.getD p.sj undef)):RStepD P ops Q R ds w0 a0 i o:=by
 intro listed a u D hI hE hr hn K hK;obtain⟨v,h1,h2,h3⟩:=h listed a u D hI hE hr hn;rw[if_pos (by simp[Region.wanted,hg])];unfold Oper.wp;rw[h1];exact hK v u (fun _=>False) (RPostV.post hd hsl (by rw[hI.tsz];exact hin) ⟨hI.old,Nat.le_refl _,fun _ _ _=>rfl,fun _ hb=>hb.elim,h2⟩) h3
def StepsFromD(P:Program)(ops:Array Oper)(Q:Exit→Act→World→Prop)(R:RF)(ds:List DerD)(w0:World)(a0:Act):Nat→List Oper→Prop
 |_,[]=>True
 |k,o::r=>RStepD P ops Q R ds w0 a0 k o∧StepsFromD P ops Q R ds w0 a0 (k+1) r
theorem StepsFromD.at_{ops:Array Oper}{R:RF}{ds:List DerD}{w0:World}{l:List Oper}{k:Nat}(h:StepsFromD P ops Q R ds w0 a0 k l){j:Nat}{o:Oper}(ho:l[j]?=some o):RStepD P ops Q R ds w0 a0 (k+j) o:=by
 induction l generalizing k j with
 |nil=>cases ho
 |cons x r ih=>
  cases j with
  |zero=>simp at ho;subst ho;exact h.1
  |succ j=>
   have:=ih h.2 (j:=j) (by simpa using ho);rw[show k+(j+1)=k+1+j by omega];exact this
theorem d_E{id:Nat}{w:World}{L l t:List Oper}{o op:Oper}(p:Nat)(ds:List DerD)(hL:L=l++o::t)(hpo:l[p]?=some op)(R:RF)(hm:P.follows .mixedOrders=true)(h1:topB L.toArray=true)(h2:k_H L.toArray R.slot=true)(h3:∀j,L.length≤j→R.eater j=none)(h4:eatB L.toArray R.eater=true)(h5:s_T L.toArray l.length p=true)(h6:op.guard=none)
 (hmon:∀i v D u u',R.fact i v D u→(∀ b,D b→u'.heap[b]?=u.heap[b]?)→R.fact i v D u')
 (hder:derB L.toArray ds=true) (hdsz:∀q∈ds,q.si<a0.tmps.size∧q.at_<l.length)
 (hs:StepsFromD P L.toArray Q R ds w.drew a0 0 l)
 (hlast:∀(lt:Bool) listed a u D,RInv L.toArray R w.drew a0 listed a u D→DerE ds listed a→(∀ i,i<l.length→i≠p→listed.getD i false=true)→(∀ e∈o.after,Region.binds .any e=true→listed.getD e.on false=true)→listed.getD l.length false=false→(lt=false→listed.getD p false=true)→(lt=true→listed.getD p false=false)→d_D P Q (o::(if lt then op::t else t)) a u):(Code.region id L.toArray true).wp P Q a0 w:=by
 subst hL;have htop:=f_5 h1;have hslot:=e_r h2;have heat:=f_6 (by simpa using h3) h4;have hsz:(l++o::t).toArray.size=l.length+1+t.length:=by simp;omega
 have hoz:(l++o::t).toArray[l.length]?=some o:=by simp
 have hpl:p<l.length:=(List.getElem?_eq_some_iff.1 hpo).1;have hpp:(l++o::t).toArray[p]?=some op:=by simp[List.getElem?_append_left hpl,hpo]
 have htt:∀n,(l++o::t).toArray[l.length+1+n]?=t[n]? :=fun n=>by
  simp only[List.getElem?_toArray];rw[List.getElem?_append_right (by omega),show l.length+1+n-l.length=n+1 by omega];rfl
 have hpre:∀(i:Nat) (oi:Oper),i<l.length→(l++o::t).toArray[i]?=some oi→l[i]?=some oi:=fun i oi hi ho=>by
  simpa[List.getElem?_append_left hi]using ho
 obtain⟨ops,hops⟩:∃ops,(l++o::t).toArray=ops:=⟨_,rfl⟩;rw[hops]at hs hder hlast hsz hoz htop hslot heat h5 hpp htt hpre ⊢;have hdsz':∀q∈ds,q.si<a0.tmps.size∧q.at_<ops.size:=fun q hq=>⟨(hdsz q hq).1,by have:=(hdsz q hq).2;omega⟩;refine wp_region_any hm ?_
 have main:∀(fuel:Nat) (listed:Array Bool) (a:Act) (u:World) (D:Nat→Nat→Prop),listed.toList.countP (fun b=>!b)≤fuel→RInv ops R w.drew a0 listed a u D→DerE ds listed a→(∀ j,l.length≤j→listed.getD j false=false)→wpAny P .any ops Q fuel listed a u:=by
  intro fuel;induction fuel with
  |zero=>
   intro listed a u D hc hI hE hz;exfalso;have h0:=List.countP_eq_zero.1 (Nat.le_zero.1 hc);have hlt:l.length<listed.size:=by rw[hI.size,hsz];omega
   have:=h0 listed[l.length] (by simp);have hz0:=hz l.length (Nat.le_refl _);simp[hlt]at hz0;rw[hz0]at this;simp at this
  |succ fuel ih=>
   intro listed a u D hc hI hE hz;refine⟨fun hr=>?_,fun i hi=>?_⟩
   ·have:=c_r htop hI.size hr l.length (by rw[hsz];omega)
    rw[hz _ (Nat.le_refl _)]at this;cases this
   obtain⟨h0,oi,ho,hr⟩:=mem_ready.1 hi;have hlt:=(Array.getElem?_eq_some_iff.1 ho).1;have hlt':i<listed.size:=by rw[hI.size];exact hlt
   have hn:listed.getD i false=false:=by simpa[hlt']using h0
   rcases Nat.lt_or_ge i l.length with hil|hil
   ·refine wpOp_step ho fun K' hK=>?_
    have hst:=hs.at_ (hpre i oi hil ho);rw[Nat.zero_add]at hst;refine hst listed a u D hI hE hr hn K' fun v u' D' hp hv=>hK _ _ ?_;refine ih _ _ _ _ ?_ (hI.next hslot heat hmon ho hn hr hp) (hE.next hder hdsz' hI ho hn hv) ?_
    ·have hb:listed[i]=false:=by simpa[hlt']using hn
     rw[Array.toList_setIfInBounds,List.countP_set (by simpa using hlt')];simp[hb];have hpos:0<listed.toList.countP (fun b=>!b):=List.countP_pos_iff.2 ⟨listed[i],by simp,by simp[hb]⟩;rw[Array.countP_toList]at hc hpos;omega
    ·intro j hj
     rw[getD_set_ne false (by omega)];exact hz j hj
   ·have hiz:i=l.length:=by
     rcases Nat.lt_or_ge l.length i with h7|h7
     ·rcases(b_4 h5 hil ho).2 l.length h7 with h8|h8
      ·obtain⟨e,he,e1,e2⟩:=a_4 h8
       have:=hr e he e2;rw[e1,hz _ (Nat.le_refl _)]at this;cases this
      ·omega
     ·omega
    subst hiz;rw[hoz]at ho;injection ho with ho;subst ho
    have hall:∀j,j<l.length→j≠p→listed.getD j false=true:=fun j hj hjp=>by
     rcases(b_4 h5 (Nat.le_refl _) hoz).2 j hj with h8|h8
     ·obtain⟨e,he,e1,e2⟩:=a_4 h8
      rw[← e1];exact hr e he e2
     ·exact absurd h8.2 hjp
    refine wpOp_step hoz fun K' hK=>?_;rw[if_pos (by simp[Region.wanted,(b_4 h5 (Nat.le_refl _) hoz).1])];obtain⟨lt,hlt2⟩:∃b:Bool,listed.getD p false=!b:=⟨!listed.getD p false,by simp⟩;have hw:=hlast lt listed a u D hI hE hall hr hn (fun e=>by rw[hlt2,e];rfl) (fun e=>by rw[hlt2,e];rfl);have htsz:∀n,n<t.length→l.length+1+n<ops.size:=fun n h=>by rw[hsz];omega
    have hwait:∀(x y:Nat) (oy:Oper),l.length<y→x<y→ops[y]?=some oy→depB oy x=true:=fun x y oy hy hxy hoy=>by
     rcases(b_4 h5 (Nat.le_of_lt hy) hoy).2 x hxy with h8|h8
     ·exact h8
     ·omega
    have hcount:((if lt then [p]else [])++(List.range t.length).map fun n=>l.length+1+n).length≤fuel:=by
     have hpos:t.length+1≤(listed.toList.drop l.length).countP (fun b=>!b):=by
      have hd:(listed.toList.drop l.length).countP (fun b=>!b)=(listed.toList.drop l.length).length:=by
       rw[List.countP_eq_length];intro b hb;obtain⟨j,hj⟩:=List.mem_iff_getElem?.1 hb;rw[List.getElem?_drop]at hj;have hz0:=hz (l.length+j) (by omega);have hj':listed[l.length+j]?=some b:=by simpa using hj
       simp[Array.getD_eq_getD_getElem?,hj']at hz0;rw[hz0];rfl
      rw[hd,List.length_drop];have:listed.toList.length=l.length+1+t.length:=by have:=hI.size;rw[hsz]at this;simpa using this
      omega
     have e:listed.toList=listed.toList.take l.length++listed.toList.drop l.length:=(List.take_append_drop _ _).symm;rw[e,List.countP_append]at hc
     have hpc:(if lt then 1 else 0)≤(listed.toList.take l.length).countP (fun b=>!b):=by
      cases lt with
      |false=>exact Nat.zero_le _
      |true=>
       refine List.countP_pos_iff.2 ⟨false,?_,rfl⟩;have hps:p<listed.size:=by rw[hI.size,hsz];omega
       refine List.mem_iff_getElem?.2 ⟨p,?_⟩;rw[List.getElem?_take,if_pos hpl];have:listed[p]=false:=by simpa[hps]using hlt2
       simp[hps,this]
     rw[List.length_append,List.length_map,List.length_range];have hif:(if lt then [p]else([]:List Nat)).length=if lt then 1 else 0:=by cases lt<;>rfl
     rw[hif];omega
    refine hw K' fun a' u' hq=>hK _ _ (l_Y htop _ fuel _ _ a' u' (by simpa using hI.size) hcount ?_ ?_ ?_ ?_ hq)
    ·cases lt<;>simp
    ·intro n i hi
     have tail:∀n i,((List.range t.length).map fun n=>l.length+1+n)[n]?=some i→∃o:Oper,ops[i]?=some o∧t[n]?=some o∧o.guard=none:=fun n i hi=>by
      rw[List.getElem?_map]at hi;cases hx:(List.range t.length)[n]? with
      |none=>rw[hx]at hi;cases hi
      |some k=>
       rw[hx]at hi;injection hi with hi;have hk:=List.getElem?_range (n:=t.length) (i:=n) (by have:=(List.getElem?_eq_some_iff.1 hx).1;simpa using this);rw[hk]at hx;injection hx with hx;subst hx;subst hi
       have hnl:n<t.length:=by
        rcases Nat.lt_or_ge n t.length with h|h
        ·exact h
        ·rw[List.getElem?_eq_none (by simpa using h)]at hk;cases hk
       obtain⟨ot,hot⟩:∃ot,t[n]?=some ot:=⟨_,List.getElem?_eq_getElem hnl⟩;have h9:=(htt n).trans hot;exact⟨ot,h9,hot,(b_4 h5 (by omega) h9).1⟩
     cases lt with
     |false=>exact tail n i hi
     |true=>
      cases n with
      |zero=>simp at hi;subst hi;exact⟨op,hpp,rfl,h6⟩
      |succ n=>exact tail n i hi
    ·have tail:((List.range t.length).map fun n=>l.length+1+n).Pairwise fun i j=>i≠j∧∀o,ops[j]?=some o→depB o i=true:=by
      rw[List.pairwise_map];exact List.pairwise_lt_range.imp fun h=>⟨by omega,fun oy hoy=>hwait _ _ oy (by omega) (by omega) hoy⟩
     cases lt with
     |false=>exact tail
     |true=>
      refine List.pairwise_cons.2 ⟨fun j hj=>?_,tail⟩;obtain⟨n,_,rfl⟩:=List.mem_map.1 hj;exact⟨by omega,fun oy hoy=>hwait _ _ oy (by omega) (by omega) hoy⟩
    ·intro j hj
     have hmem:j∈((if lt then [p]else [])++(List.range t.length).map fun n=>l.length+1+n)↔(lt=true∧j=p)∨(l.length<j∧j<ops.size):=by
      rw[List.mem_append,List.mem_map,hsz];refine or_congr ?_ ⟨?_,?_⟩
      ·cases lt<;>simp
      ·rintro⟨n,hn',rfl⟩;have:=List.mem_range.1 hn';omega
      ·rintro⟨h8,h9⟩;exact⟨j-(l.length+1),List.mem_range.2 (by omega),by omega⟩
     rw[hmem];by_cases e:j=l.length
     ·subst e
      constructor
      ·intro hf;simp[hlt']at hf
      ·rintro(⟨_,h8⟩|h8)<;>omega
     ·rw[getD_set_ne false (Ne.symm e)]
      rcases Nat.lt_or_ge j l.length with h8|h8
      ·by_cases ejp:j=p
       ·subst ejp
        rw[hlt2];constructor
        ·intro hf;exact .inl ⟨by simpa using hf,rfl⟩
        ·rintro(⟨h9,_⟩|h9)
         ·rw[h9];rfl
         ·omega
       ·rw[hall j h8 ejp]
        constructor
        ·intro hf;cases hf
        ·rintro(⟨_,h9⟩|h9)
         ·exact absurd h9 ejp
         ·omega
      ·rw[hz j h8]
       exact⟨fun _=>.inr ⟨by omega,hj⟩,fun _=>rfl⟩
 refine main ops.size _ a0 _ (fun _ _=>False) ?_ ?_ ?_ ?_
 ·refine Nat.le_trans List.countP_le_length ?_
  simp
 ·refine⟨by simp,fun i o _ hl=>?_,rfl,rfl,fun _ _=>rfl,Below.refl _ _,fun i hl=>?_,fun i b hl=>?_,fun i j b _ hl=>?_⟩
  all_goals
   exfalso
   first
    |(have:=hl.1;simp[Array.getElem?_replicate]at this;done)
    |(have:=hl.1;simp[Array.getElem?_replicate]at this;split at this<;>simp at this)
    |(simp[Array.getElem?_replicate]at hl;done)
    |(simp[Array.getElem?_replicate]at hl;split at hl<;>simp at hl)
 ·intro p _ hl
  exfalso;revert hl;simp[Array.getElem?_replicate];try (split<;>simp)
 ·intro j hj
  simp[Array.getElem?_replicate];try (split<;>rfl)
theorem f_E{a:Act}{u:World}(h:Q .normal a u):d_D P Q [] a u:=h
theorem d_P{o:Oper}{t:List Oper}{a:Act}{u u':World}(hd:o.dst=none)(hr:(execOp a.eval o).run P u=.ok .skip u')(h:d_D P Q t a u'):d_D P Q (o::t) a u:=by
 intro K hK;refine e_Z hd hr (hK _ _ h)
theorem c_I{o:Oper}{t:List Oper}{a:Act}{u:World}{v:Value}(hr:(execOp a.eval o).run P u=.ok (.value v) u)(h:d_D P Q t (a.put o.dst v) u):d_D P Q (o::t) a u:=by
 intro K hK;unfold Oper.wp;rw[hr];exact hK _ _ h
end
end Mem
namespace Mem
theorem a_G{w:World}{dT sT ty elem:TypeId}{g off dLen dCap:Nat}{ad:Addr}{sLen sCap k q:Nat}{cur cs:List Value}{t:TypeId}
 (hu:Tryz.prog.underlying dT=some (.slice elem)) (hs:(Tryz.prog.info? elem).map (·.size)=some k) (hg:Blk w g t cur) (hmin:Nat.min sLen dLen=q) (hc:∀j v,cs[j]?=some v→w.cell? (ad.add j)=some v) (hl:cs.length=q*k) (hfit:off+cs.length≤cur.length) (h1:∀v∈cs,v.oneCell'=true):
 (Builtin.copy_ #[dT,sT] ty #[.slice (some ⟨g,off,none⟩) dLen dCap,.slice (some ad) sLen sCap]).run Tryz.prog w=.ok (goInt q) (w.setRow g (splice cur off cs).toArray):=by
 cases hq:Tryz.prog.info? elem with
 |none=>rw[hq]at hs;simp at hs
 |some i=>
  have hi:i.size=k:=by simpa[hq]using hs
  have hl':=run_loadCells_list (P:=Tryz.prog) w ad cs hc;rw[hl]at hl';have hst:=run_storeCells_at Tryz.prog g off t cs 0 cur.toArray w hg (by simpa using hfit) h1;have hmin':min sLen dLen=q:=hmin;simp[Builtin.copy_,run_underlying hu,Builtin.lenOf,Builtin.firstCells,sizeOf,typeInfo,hq,hi,hmin',hl',hst,splice]
theorem f_l(w:World)(g:Nat)(cs:Array Value):w.grownBy (w.setRow g cs) (some g):=
 ⟨rfl,rfl,rfl,by simp[World.setRow],fun i _ hne=>setRow_other w g i cs (fun e=>hne (by rw[e]))⟩
theorem g_u(w:World)(g:Nat)(cs:Array Value):(w.setRow g cs).heap.size=w.heap.size:=by simp[World.setRow]
def putIn(xs:List Value)(i k:Nat)(vs:List Value):List Value:=xs.take (i*k)++(vs++xs.drop (i*k))
theorem j_o{xs vs:List Value}{i k n:Nat}(h:xs.length=n*k)(hv:vs.length=k)(hi:i≤n):(putIn xs i k vs).length=(n+1)*k:=by
 have:i*k≤n*k:=Nat.mul_le_mul_right _ hi;have e:(n+1)*k=n*k+k:=by rw[Nat.add_mul,Nat.one_mul]
 simp only[putIn,List.length_append,List.length_take,List.length_drop];omega
theorem j_p{α:Type}{L:List α}{off:Nat}{cs:List α}{a:Nat}(h:a≤off)(h':off≤L.length):(splice L off cs).take a=L.take a:=by
 unfold splice;rw[List.take_append_of_le_length (by rw[List.length_take];omega),List.take_take,Nat.min_eq_left h]
theorem k_3{α:Type}{L:List α}{off:Nat}{cs:List α}(h':off≤L.length):(splice L off cs).drop off=cs++L.drop (off+cs.length):=by
 unfold splice;rw[List.drop_append_of_le_length (by rw[List.length_take];omega),List.drop_of_length_le (by rw[List.length_take];omega),List.nil_append]
theorem h_x{α:Type}(p v q t:List α):(p++(v++(q++t))).take (p.length+v.length+q.length)=p++(v++q):=by
 rw[← List.append_assoc,←List.append_assoc,List.take_left' (by simp only[List.length_append]),List.append_assoc]
theorem k_4{cur xs vs:List Value}{i k n:Nat}(hx:cur.take (n*k)=xs)(hxl:xs.length=n*k)(hv:vs.length=k)(hi:i≤n)(hr:(n+1)*k≤cur.length):
 (splice (splice cur ((i+1)*k) (xs.drop (i*k))) (i*k) vs).take ((n+1)*k)=putIn xs i k vs:=by
 have hik:i*k≤n*k:=Nat.mul_le_mul_right _ hi;have e1:(i+1)*k=i*k+k:=by rw[Nat.add_mul,Nat.one_mul]
 have e2:(n+1)*k=n*k+k:=by rw[Nat.add_mul,Nat.one_mul]
 unfold putIn;rw[e1,e2];rw[e2]at hr;obtain⟨a,ha⟩:∃a,i*k=a:=⟨_,rfl⟩;obtain⟨b,hb⟩:∃b,n*k=b:=⟨_,rfl⟩;rw[ha,hb];rw[ha,hb]at hik;rw[hb]at hx hxl hr;have hp:xs.take a=cur.take a:=by rw[← hx,List.take_take,Nat.min_eq_left hik]
 have hpl:(cur.take a).length=a:=by rw[List.length_take];omega
 obtain⟨q,hq⟩:∃q,xs.drop a=q:=⟨_,rfl⟩;have hql:q.length=b-a:=by rw[← hq,List.length_drop,hxl]
 rw[hp,hq];have h1:=j_p (L:=cur) (off:=a+k) (cs:=q) (a:=a) (by omega) (by omega);have h2:=k_3 (L:=cur) (off:=a+k) (cs:=q) (by omega);obtain⟨X,hX⟩:∃X,splice cur (a+k) q=X:=⟨_,rfl⟩;rw[hX]at h1 h2 ⊢;have h3:splice X a vs=cur.take a++(vs++(q++cur.drop (a+k+q.length))):=by unfold splice;rw[h1,hv,h2]
 rw[h3,show b+k=(cur.take a).length+vs.length+q.length by rw[hpl,hv,hql];omega];exact h_x _ _ _ _
theorem k_5{xs vs zs:List Value}{i k n:Nat}(hxl:xs.length=n*k)(hv:vs.length=k)(hi:i≤n):
 (splice (splice (xs.take (i*k)++zs) (i*k) vs) ((i+1)*k) (xs.drop (i*k))).take ((n+1)*k)=putIn xs i k vs:=by
 have hik:i*k≤n*k:=Nat.mul_le_mul_right _ hi;have e1:(i+1)*k=i*k+k:=by rw[Nat.add_mul,Nat.one_mul]
 have e2:(n+1)*k=n*k+k:=by rw[Nat.add_mul,Nat.one_mul]
 unfold putIn;rw[e1,e2];obtain⟨a,ha⟩:∃a,i*k=a:=⟨_,rfl⟩;obtain⟨b,hb⟩:∃b,n*k=b:=⟨_,rfl⟩;rw[ha,hb];rw[ha,hb]at hik;rw[hb]at hxl;obtain⟨p,hp⟩:∃p,xs.take a=p:=⟨_,rfl⟩;have hpl:p.length=a:=by rw[← hp,List.length_take];omega
 obtain⟨q,hq⟩:∃q,xs.drop a=q:=⟨_,rfl⟩;have hql:q.length=b-a:=by rw[← hq,List.length_drop,hxl]
 rw[hp,hq]
 have h1:splice (p++zs) a vs=p++(vs++zs.drop k):=by
  unfold splice;rw[List.take_left' hpl,hv,←List.drop_drop,List.drop_left' hpl]
 have hl:(p++(vs++zs.drop k)).take (a+k)=p++vs:=by
  rw[← List.append_assoc,List.take_left' (by rw[List.length_append,hpl,hv])]
 have h2:splice (p++(vs++zs.drop k)) (a+k) q=p++(vs++(q++(p++(vs++zs.drop k)).drop (a+k+q.length))):=by
  unfold splice;rw[hl,List.append_assoc]
 rw[h1,h2,show b+k=p.length+vs.length+q.length by rw[hpl,hv,hql];omega];exact h_x _ _ _ _
def j_q(w:World)(base:Nat)(e:TypeId)(k:Nat)(v:Value)(n:Nat)(vs:List Value)(en:Ending)(w':World):Prop:=
 ∃v',en=.returned v'∧OwnK w' base e k v' n vs∧w.grownBy w' v.ownBlock∧(v'.ownBlock=v.ownBlock∨v'.ownBlock=some w.heap.size)
theorem g_v{w:World}{base g cap n i k:Nat}{e:TypeId}{cur xs vs:List Value}(hg:base≤g)(hb:Blk w g e cur)(hcl:cur.length=cap*k)(hcm:cap≤maxLen)(hx:cur.take (n*k)=xs)(hxl:xs.length=n*k)(hv:vs.length=k)(hi:i≤n)(hr:n+1≤cap){d:Nat}:
 j_q w base e k (.slice (some ⟨g,0,none⟩) n cap) (n+1) (putIn xs i k vs) (.returned (.slice (some ⟨g,0,none⟩) (n+1) cap)) (((w.drewN d).setRow g (splice cur ((i+1)*k) (xs.drop (i*k))).toArray).setRow g (splice (splice cur ((i+1)*k) (xs.drop (i*k))) (i*k) vs).toArray):=by
 have h1:(n+1)*k≤cur.length:=by rw[hcl];exact Nat.mul_le_mul_right _ hr
 have hik:i*k≤n*k:=Nat.mul_le_mul_right _ hi;have e1:(i+1)*k=i*k+k:=by rw[Nat.add_mul,Nat.one_mul]
 have e2:(n+1)*k=n*k+k:=by rw[Nat.add_mul,Nat.one_mul]
 have hb0:Blk (w.drewN d) g e cur:=hb;have l1:(splice cur ((i+1)*k) (xs.drop (i*k))).length=cur.length:=length_splice _ _ _ (by rw[List.length_drop,hxl];omega);have l2:(splice (splice cur ((i+1)*k) (xs.drop (i*k))) (i*k) vs).length=cur.length:=by rw[length_splice _ _ _ (by rw[l1,hv];omega),l1]
 have hb1:Blk ((w.drewN d).setRow g (splice cur ((i+1)*k) (xs.drop (i*k))).toArray) g e (splice cur ((i+1)*k) (xs.drop (i*k))):=setRow_heap _ g _ _ e _ hb0;have hb2:Blk (((w.drewN d).setRow g (splice cur ((i+1)*k) (xs.drop (i*k))).toArray).setRow g (splice (splice cur ((i+1)*k) (xs.drop (i*k))) (i*k) vs).toArray) g e (splice (splice cur ((i+1)*k) (xs.drop (i*k))) (i*k) vs):=setRow_heap _ g _ _ e _ hb1;refine⟨_,rfl,⟨⟨j_o hxl hv hi,.inr ⟨g,cap,_,rfl,hg,hb2,hr,hcm,by simp[l2,hcl],?_⟩⟩,by omega⟩,?_,.inl rfl⟩
 ·exact k_4 hx hxl hv hi h1
 ·have g0:w.grownBy (w.drewN d) (some g):=⟨rfl,rfl,rfl,Nat.le_refl _,fun _ _ _=>rfl⟩
  exact(g0.trans (f_l _ g _)).trans (f_l _ g _)
theorem g_w{w:World}{base n i k G:Nat}{e:TypeId}{v:Value}{xs vs zs:List Value}(hbase:base≤w.heap.size)(hxl:xs.length=n*k)(hv:vs.length=k)(hi:i≤n)(hG:n+1≤G)(hGm:G≤maxLen)(hz:i*k+zs.length=G*k):
 j_q w base e k v (n+1) (putIn xs i k vs) (.returned (.slice (some ⟨w.heap.size,0,none⟩) (n+1) G)) ((((w.drew.alloc (.cells (xs.take (i*k)++zs).toArray e)).setRow w.heap.size (splice (xs.take (i*k)++zs) (i*k) vs).toArray).drew).setRow w.heap.size (splice (splice (xs.take (i*k)++zs) (i*k) vs) ((i+1)*k) (xs.drop (i*k))).toArray):=by
 have hik:i*k≤n*k:=Nat.mul_le_mul_right _ hi;have e1:(i+1)*k=i*k+k:=by rw[Nat.add_mul,Nat.one_mul]
 have e2:(n+1)*k=n*k+k:=by rw[Nat.add_mul,Nat.one_mul]
 have hGk:(n+1)*k≤G*k:=Nat.mul_le_mul_right _ hG;have l0:(xs.take (i*k)++zs).length=G*k:=by rw[List.length_append,List.length_take];omega
 have l1:(splice (xs.take (i*k)++zs) (i*k) vs).length=G*k:=by rw[length_splice _ _ _ (by rw[l0,hv];omega),l0]
 have l2:(splice (splice (xs.take (i*k)++zs) (i*k) vs) ((i+1)*k) (xs.drop (i*k))).length=G*k:=by rw[length_splice _ _ _ (by rw[l1,List.length_drop,hxl];omega),l1]
 have hb0:Blk (w.drew.alloc (.cells (xs.take (i*k)++zs).toArray e)) w.heap.size e (xs.take (i*k)++zs):=Blk.new w.drew e _;have hb1:=setRow_heap _ w.heap.size _ (splice (xs.take (i*k)++zs) (i*k) vs).toArray e _ hb0;obtain⟨X,hX⟩:∃X,(w.drew.alloc (.cells (xs.take (i*k)++zs).toArray e)).setRow w.heap.size (splice (xs.take (i*k)++zs) (i*k) vs).toArray=X:=⟨_,rfl⟩;have hXs:X.heap.size=w.heap.size+1:=by rw[← hX,g_u];simp
 have hXo:∀b,b<w.heap.size→X.heap[b]?=w.heap[b]? :=fun b hb=>by
  rw[← hX,setRow_other _ _ _ _ (by omega)];exact Below.heap_alloc w.drew _ b hb
 have hXb:Blk X w.heap.size e (splice (xs.take (i*k)++zs) (i*k) vs):=by rw[← hX];exact hb1
 have hXg:w.grownBy X v.ownBlock:=⟨by rw[← hX];rfl,by rw[← hX];rfl,by rw[← hX];rfl,by omega,fun b hb _=>hXo b hb⟩;rw[hX];have hXd:Blk X.drew w.heap.size e (splice (xs.take (i*k)++zs) (i*k) vs):=hXb;have hb2:Blk (X.drew.setRow w.heap.size (splice (splice (xs.take (i*k)++zs) (i*k) vs) ((i+1)*k) (xs.drop (i*k))).toArray) w.heap.size e (splice (splice (xs.take (i*k)++zs) (i*k) vs) ((i+1)*k) (xs.drop (i*k))):=setRow_heap _ w.heap.size _ _ e _ hXd;refine⟨_,rfl,⟨⟨j_o hxl hv hi,.inr ⟨w.heap.size,G,_,rfl,hbase,hb2,hG,hGm,by simp[l2],?_⟩⟩,by unfold maxLen at *;omega⟩,?_,.inr rfl⟩
 ·exact k_5 hxl hv hi
 ·refine⟨hXg.os,hXg.tape,hXg.output,?_,fun b hb hne=>?_⟩
  ·rw[g_u];show w.heap.size≤X.heap.size;omega
  ·rw[setRow_other _ _ _ _ (by omega)]
   exact hXo b hb
theorem j_r{P:Program}{w:World}{o:Oper}{a:Act}{K:Act→World→Prop}{Q:Exit→Act→World→Prop}(d s:Operand){dT sT:TypeId}(ho:o.op=.call {callee:=.builtin .copy,args:=#[d,s],argTypes:=#[dT,sT] }){v u:Value}(hd:a.eval d=v)(hs:a.eval s=u){v':Value}{w':World}
 (hr:(Builtin.copy_ #[dT,sT] o.type #[v,u]).run P w=.ok v' w') (h:K (a.put o.dst v') w'):o.wp P a w K Q:=by
 unfold Oper.wp execOp;simp only[ho,resolve,invoke,builtin,Sem.run_bind,Sem.run_pure,Result.andThen_ok,List.map_toArray,List.map_cons,List.map_nil,hd,hs,hr];exact h
theorem b_s{P:Program}{w:World}{ops:Array Oper}{rest:List Oper}{o:Oper}{a:Act}{Q:Exit→Act→World→Prop}(hgd:o.guard=none)(d s:Operand){dT sT:TypeId}(ho:o.op=.call {callee:=.builtin .copy,args:=#[d,s],argTypes:=#[dT,sT] }){v u:Value}(hd:a.eval d=v)(hs:a.eval s=u){v':Value}{w':World}
 (hr:(Builtin.copy_ #[dT,sT] o.type #[v,u]).run P w=.ok v' w') (h:wpList P ops Q rest (a.put o.dst v') w'):wpList P ops Q (o::rest) a w:=
 wpList_plain hgd fun _ hK=>j_r d s ho hd hs hr (hK _ _ h)
theorem b_3{P:Program}{ops:Array Oper}{o:Oper}{a:Act}{w:World}{K:Act→World→Prop}{Q:Exit→Act→World→Prop}{E:Prop}(hg:o.guard=none)(d s:Operand){dT sT:TypeId}(ho:o.op=.call {callee:=.builtin .copy,args:=#[d,s],argTypes:=#[dT,sT] }){v u:Value}(hd:a.eval d=v)(hs:a.eval s=u){v':Value}{w':World}
 (hr:(Builtin.copy_ #[dT,sT] o.type #[v,u]).run P w=.ok v' w') (h:K (a.put o.dst v') w'):if Region.wanted o (yielded ops a.tmps)=true then Oper.wp P o a w K Q else E:=by
 have hw:Region.wanted o (yielded ops a.tmps)=true:=by simp[Region.wanted,hg]
 rw[if_pos hw];exact j_r d s ho hd hs hr h
end Mem
end Go.Proofs.YtkpnmpjnpcjohaaGreat
