import Derived.Test.YtkpnmpjnpcjohaaGreatLibRows
import Derived.OrdersIn
import Derived.TacticsIn
import Derived.RangeFuncCalls
set_option linter.unusedSimpArgs false
namespace Go.Proofs.YtkpnmpjnpcjohaaGreat
open ChangeShapes WideShapes ChangeAt RowKit
namespace Mem
def valRF(slots:List Nat)(vals:List Value):RF:=⟨fun k=>slots.getD k 0,fun _=>none,fun k v D _=>pureF (fun v=>v=vals.getD k undef) v D⟩
theorem valRF.mon{slots:List Nat}{vals:List Value}(k:Nat)(v:Value)(D:Nat→Prop)(u u':World)(h:(valRF slots vals).fact k v D u)(_:∀b,D b→u'.heap[b]?=u.heap[b]?):(valRF slots vals).fact k v D u':=h
section
variable {P : Program} {ops : Array Oper} {Q : Exit → Act → World → Prop} {w0 : World} {a0 : Act} {i : Nat} {o : Oper} {listed : Array Bool} {a : Act} {u : World} {D : Nat → Nat → Prop} {slots : List Nat} {vals : List Value}
theorem valRF.val(h:RInv ops (valRF slots vals) w0 a0 listed a u D)(hr:∀e∈o.after,Region.binds .any e=true→listed.getD e.on false=true)(hn:listed.getD i false=false)(j:Nat)(hj:depB o j=true){s:Nat}{v:Value}(hs:slots.getD j 0=s)(hv:vals.getD j undef=v):a.eval (.tmp s)=v:=by
 have hg:=(h.get hr hn j hj (.inl rfl)).1;rw[← hs,←hv];exact hg.1
theorem valRF.pureStep(hg:o.guard=none)(s:Nat)(hd:o.dst=some s)(hsl:slots.getD i 0=s)(hin:s<a0.tmps.size)(v:Value)(hv:vals.getD i undef=v)
 (h:∀listed a u D,RInv ops (valRF slots vals) w0 a0 listed a u D→(∀ e∈o.after,Region.binds .any e=true→listed.getD e.on false=true)→listed.getD i false=false→(execOp a.eval o).run P u=.ok (.value v) u):RStep P ops Q (valRF slots vals) w0 a0 i o:=
 RStep.pure hg s hd hsl hin fun listed a u D hI hr hn=>⟨v,h listed a u D hI hr hn,pureF.new hv.symm⟩
theorem valRF.callStep(hg:o.guard=none)(s:Nat)(hd:o.dst=some s)(hsl:slots.getD i 0=s)(hin:s<a0.tmps.size)(v:Value)(hv:vals.getD i undef=v)
 (h:∀listed a u D,RInv ops (valRF slots vals) w0 a0 listed a u D→(∀ e∈o.after,Region.binds .any e=true→listed.getD e.on false=true)→listed.getD i false=false→∃f args,(execOp a.eval o).run P u=.ok (.enter f args) u∧Calls P f args u fun e u'=>e=.returned v∧Below u.heap.size u u'):RStep P ops Q (valRF slots vals) w0 a0 i o:=
 RStep.call hg s hd hsl hin fun listed a u D hI hr hn=>by
  obtain⟨f,args,e1,hc⟩:=h listed a u D hI hr hn;refine⟨f,args,e1,hc.mono ?_⟩;rintro e u' ⟨rfl,hb⟩;exact⟨v,fun _=>False,rfl,hI.old.trans (hb.mono hI.old.size),hb.size,fun b hlt _=>hb.block b hlt,fun b hd=>hd.elim,pureF.new hv.symm⟩
theorem l_0{o:Oper}{j t:Nat}{b b':Bool}(hg:o.guard=some (j,b))(hj:(ops[j]?).bind (·.dst)=some t)(hv:a.tmps.getD t undef=.bool b'):Region.wanted o (yielded ops a.tmps)=(b'==b):=by
 have h1:a.tmps[t]?=some (.bool b'):=by
  cases h:a.tmps[t]? with
  |none=>rw[Array.getD_eq_getD_getElem?,h]at hv;cases hv
  |some v=>rw[Array.getD_eq_getD_getElem?,h]at hv;exact congrArg some hv
 have h2:yielded ops a.tmps j=some b':=by
  unfold yielded;rw[hj];simp[h1]
 unfold Region.wanted;rw[hg];simp only[h2];cases b<;>cases b'<;>rfl
theorem a_F{o:Oper}{j t:Nat}{b:Bool}(hg:o.guard=some (j,b))(hj:(ops[j]?).bind (·.dst)=some t)(hv:a.tmps.getD t undef=.bool (!b)):Region.wanted o (yielded ops a.tmps)=false:=by
 rw[l_0 hg hj hv];cases b<;>rfl
theorem a_m{o:Oper}{j t:Nat}{b:Bool}(hg:o.guard=some (j,b))(hj:(ops[j]?).bind (·.dst)=some t)(hv:a.tmps.getD t undef=.bool b):Region.wanted o (yielded ops a.tmps)=true:=by
 rw[l_0 hg hj hv];cases b<;>rfl
section
variable {R : RF}
theorem RStep.valW(t:Nat)(hd:o.dst=some t)(hsl:R.slot i=t)(hin:t<a0.tmps.size)
 (h:∀listed a u D,RInv ops R w0 a0 listed a u D→(∀ e∈o.after,Region.binds .any e=true→listed.getD e.on false=true)→listed.getD i false=false→Region.wanted o (yielded ops a.tmps)=true∧∃v u' D',(execOp a.eval o).run P u=.ok (.value v) u'∧RPostV R w0 i u D v u' D'):RStep P ops Q R w0 a0 i o:=by
 intro listed a u D hI hr hn K hK;obtain⟨hw,v,u',D',h1,h2⟩:=h listed a u D hI hr hn;rw[if_pos hw];unfold Oper.wp;rw[h1];exact hK v u' D' (h2.post hd hsl (by rw[hI.tsz];exact hin))
theorem RStep.pureW(t:Nat)(hd:o.dst=some t)(hsl:R.slot i=t)(hin:t<a0.tmps.size)
 (h:∀listed a u D,RInv ops R w0 a0 listed a u D→(∀ e∈o.after,Region.binds .any e=true→listed.getD e.on false=true)→listed.getD i false=false→Region.wanted o (yielded ops a.tmps)=true∧∃v,(execOp a.eval o).run P u=.ok (.value v) u∧R.fact i v (fun _=>False) u):RStep P ops Q R w0 a0 i o:=
 RStep.valW t hd hsl hin fun listed a u D hI hr hn=>by
  obtain⟨hw,v,h1,h2⟩:=h listed a u D hI hr hn;exact⟨hw,v,u,_,h1,hI.old,Nat.le_refl _,fun _ _ _=>rfl,fun _ hb=>hb.elim,h2⟩
theorem RStep.callW(t:Nat)(hd:o.dst=some t)(hsl:R.slot i=t)(hin:t<a0.tmps.size)
 (h:∀listed a u D,RInv ops R w0 a0 listed a u D→(∀ e∈o.after,Region.binds .any e=true→listed.getD e.on false=true)→listed.getD i false=false→Region.wanted o (yielded ops a.tmps)=true∧∃f args,(execOp a.eval o).run P u=.ok (.enter f args) u∧Calls P f args u fun e u'=>∃v D',e=.returned v∧RPostV R w0 i u D v u' D'):RStep P ops Q R w0 a0 i o:=by
 intro listed a u D hI hr hn K hK;obtain⟨hw,f,args,h1,h2⟩:=h listed a u D hI hr hn;rw[if_pos hw];unfold Oper.wp;rw[h1];refine h2.mono ?_;rintro e u' ⟨v,D',rfl,h3⟩;exact hK v u' D' (h3.post hd hsl (by rw[hI.tsz];exact hin))
theorem RStep.skipW(t:Nat)(hd:o.dst=some t)(hsl:R.slot i=t)(hin:t<a0.tmps.size)
 (h:∀listed a u D,RInv ops R w0 a0 listed a u D→(∀ e∈o.after,Region.binds .any e=true→listed.getD e.on false=true)→listed.getD i false=false→Region.wanted o (yielded ops a.tmps)=false∧R.fact i undef (fun _=>False) u):RStep P ops Q R w0 a0 i o:=by
 intro listed a u D hI hr hn K hK;obtain⟨hw,h2⟩:=h listed a u D hI hr hn;rw[if_neg (by rw[hw];decide)];refine hK undef u (fun _=>False) (RPostV.post hd hsl (by rw[hI.tsz];exact hin) ?_);exact⟨hI.old,Nat.le_refl _,fun _ _ _=>rfl,fun _ hb=>hb.elim,h2⟩
end
theorem valRF.skipStep(s:Nat)(hd:o.dst=some s)(hsl:slots.getD i 0=s)(hin:s<a0.tmps.size)(hv:vals.getD i undef=undef)
 (h:∀listed a u D,RInv ops (valRF slots vals) w0 a0 listed a u D→(∀ e∈o.after,Region.binds .any e=true→listed.getD e.on false=true)→listed.getD i false=false→Region.wanted o (yielded ops a.tmps)=false):RStep P ops Q (valRF slots vals) w0 a0 i o:=
 RStep.skipW s hd hsl hin fun listed a u D hI hr hn=>⟨h listed a u D hI hr hn,pureF.new hv.symm⟩
theorem valRF.pureStepG(s:Nat)(hd:o.dst=some s)(hsl:slots.getD i 0=s)(hin:s<a0.tmps.size)(v:Value)(hv:vals.getD i undef=v)
 (h:∀listed a u D,RInv ops (valRF slots vals) w0 a0 listed a u D→(∀ e∈o.after,Region.binds .any e=true→listed.getD e.on false=true)→listed.getD i false=false→Region.wanted o (yielded ops a.tmps)=true∧(execOp a.eval o).run P u=.ok (.value v) u):RStep P ops Q (valRF slots vals) w0 a0 i o:=
 RStep.pureW s hd hsl hin fun listed a u D hI hr hn=>⟨(h listed a u D hI hr hn).1,v,(h listed a u D hI hr hn).2,pureF.new hv.symm⟩
theorem valRF.callStepG(s:Nat)(hd:o.dst=some s)(hsl:slots.getD i 0=s)(hin:s<a0.tmps.size)(v:Value)(hv:vals.getD i undef=v)
 (h:∀listed a u D,RInv ops (valRF slots vals) w0 a0 listed a u D→(∀ e∈o.after,Region.binds .any e=true→listed.getD e.on false=true)→listed.getD i false=false→Region.wanted o (yielded ops a.tmps)=true∧∃f args,(execOp a.eval o).run P u=.ok (.enter f args) u∧Calls P f args u fun e u'=>e=.returned v∧Below u.heap.size u u'):RStep P ops Q (valRF slots vals) w0 a0 i o:=
 RStep.callW s hd hsl hin fun listed a u D hI hr hn=>by
  obtain⟨hw,f,args,e1,hc⟩:=h listed a u D hI hr hn;refine⟨hw,f,args,e1,hc.mono ?_⟩;rintro e u' ⟨rfl,hb⟩;exact⟨v,fun _=>False,rfl,hI.old.trans (hb.mono hI.old.size),hb.size,fun b hlt _=>hb.block b hlt,fun b hd=>hd.elim,pureF.new hv.symm⟩
end
end Mem
namespace Mem
theorem k_6{w:World}{base k n:Nat}{e:TypeId}{v:Value}{vs:List Value}(h:OwnK w base e k v n vs){g:Nat}(hg:v.ownBlock=some g):base≤g∧g<w.heap.size:=by
 rcases h.1.2 with⟨rfl,_⟩|⟨b,cap,cur,rfl,hb,hh,_⟩
 ·cases hg
 ·have:b=g:=by simpa[Value.ownBlock]using hg
  subst this;refine⟨hb,?_⟩;rcases Nat.lt_or_ge b w.heap.size with hlt|hge
  ·exact hlt
  ·rw[Array.getElem?_eq_none hge]at hh;cases hh
section
variable {P : Program} {o : Oper} {a : Act} {u : World}
theorem a_H{t:TypeId}{x:Operand}{i:Nat}{p q:Value}(h:o.op=.fieldAddr t x i)(hp:a.eval x=p)(hr:(Instr.fieldAt t p i).run P u=.ok q u):(execOp a.eval o).run P u=.ok (.value q) u:=by
 unfold execOp;rw[h];simp only[hp,Sem.run_bind,hr,Result.andThen_ok,Sem.run_pure]
theorem a_6{x:Operand}{k:Nat}{vs:Array Value}{v:Value}(h:o.op=.extract x k)(hp:a.eval x=.tuple vs)(hv:vs[k]?=some v):(execOp a.eval o).run P u=.ok (.value v) u:=by
 unfold execOp;rw[h];simp only[hp];simp[go_sem,hv]
theorem c_m{f:Nat}{ts:Array TypeId}{x:Operand}{v:Value}(h:o.op=.call {callee:=.value (.func f),args:=#[x],argTypes:=ts })(h1:a.eval x=v)(hf:(callFunc f #[v]).run P u=.ok (.enter f #[v]) u):(execOp a.eval o).run P u=.ok (.enter f #[v]) u:=by
 have hf':a.eval (.func f)=.func (.func f) #[] #[]:=rfl;obtain⟨ρ,hρ⟩:∃ρ,a.eval=ρ:=⟨_,rfl⟩;rw[hρ]at h1 hf' ⊢;unfold execOp;rw[h];simp[go_sem,hf',h1,hf]
theorem b_5{f:Nat}{ts:Array TypeId}{x y:Operand}{v1 v2:Value}(h:o.op=.call {callee:=.value (.func f),args:=#[x,y],argTypes:=ts })(h1:a.eval x=v1)(h2:a.eval y=v2)(hf:(callFunc f #[v1,v2]).run P u=.ok (.enter f #[v1,v2]) u):(execOp a.eval o).run P u=.ok (.enter f #[v1,v2]) u:=by
 have hf':a.eval (.func f)=.func (.func f) #[] #[]:=rfl;obtain⟨ρ,hρ⟩:∃ρ,a.eval=ρ:=⟨_,rfl⟩;rw[hρ]at h1 h2 hf' ⊢;unfold execOp;rw[h];simp[go_sem,hf',h1,h2,hf]
end
end Mem
namespace Mem
def rowsRF(base k:Nat)(e:TypeId)(slots:List Nat)(vals:List Value)(rows:List (Nat×Nat×List Value)):RF:=
 ⟨fun i=>slots.getD i 0,fun _=>none,fun i v D u=>match rows.find? (fun x=>x.1==i)with
   |some x=>ownF base k e x.2.1 x.2.2 v D u
   |none=>pureF (fun v=>v=vals.getD i undef) v D⟩
theorem rowsRF.mon{base k:Nat}{e:TypeId}{slots:List Nat}{vals:List Value}{rows:List (Nat×Nat×List Value)}(i:Nat)(v:Value)(D:Nat→Prop)(u u':World)(h:(rowsRF base k e slots vals rows).fact i v D u)(hk:∀b,D b→u'.heap[b]?=u.heap[b]?):(rowsRF base k e slots vals rows).fact i v D u':=by
 revert h;show(match rows.find? (fun x=>x.1==i)with|some x=>ownF base k e x.2.1 x.2.2 v D u|none=>pureF (fun v=>v=vals.getD i undef) v D)→(match rows.find? (fun x=>x.1==i)with|some x=>ownF base k e x.2.1 x.2.2 v D u'|none=>pureF (fun v=>v=vals.getD i undef) v D);split
 ·exact fun h=>ownF.mon h hk
 ·exact fun h=>h
section
variable {P : Program} {ops : Array Oper} {Q : Exit → Act → World → Prop} {w0 : World} {a0 : Act} {i : Nat} {o : Oper} {listed : Array Bool} {a : Act} {u : World} {D : Nat → Nat → Prop} {base k : Nat} {e : TypeId} {slots : List Nat} {vals : List Value} {rows : List (Nat × Nat × List Value)}
theorem rowsRF.val(h:RInv ops (rowsRF base k e slots vals rows) w0 a0 listed a u D)(hr:∀e∈o.after,Region.binds .any e=true→listed.getD e.on false=true)(hn:listed.getD i false=false)(j:Nat)(hj:depB o j=true){s:Nat}{v:Value}(hs:slots.getD j 0=s)(hw:rows.find? (fun x=>x.1==j)=none)(hv:vals.getD j undef=v):a.tmps.getD s undef=v:=by
 have hg:(match rows.find? (fun x=>x.1==j)with|some x=>ownF base k e x.2.1 x.2.2 (a.tmps.getD (slots.getD j 0) undef) (D j) u|none=>pureF (fun v=>v=vals.getD j undef) (a.tmps.getD (slots.getD j 0) undef) (D j)):=(h.get hr hn j hj (.inl rfl)).1;rw[hw,hs,hv]at hg;exact hg.1
theorem rowsRF.row(h:RInv ops (rowsRF base k e slots vals rows) w0 a0 listed a u D)(hr:∀e∈o.after,Region.binds .any e=true→listed.getD e.on false=true)(hn:listed.getD i false=false)(j:Nat)(hj:depB o j=true){s n:Nat}{vs:List Value}(hs:slots.getD j 0=s)(hw:rows.find? (fun x=>x.1==j)=some (j,n,vs)):
 ∃A c,a.tmps.getD s undef=.slice A n c∧n≤c∧Recs u u.heap.size A n k vs:=by
 have hg:(match rows.find? (fun x=>x.1==j)with|some x=>ownF base k e x.2.1 x.2.2 (a.tmps.getD (slots.getD j 0) undef) (D j) u|none=>pureF (fun v=>v=vals.getD j undef) (a.tmps.getD (slots.getD j 0) undef) (D j)):=(h.get hr hn j hj (.inl rfl)).1;rw[hw,hs]at hg;exact OwnK.read hg.1
theorem rowsRF.pureStep(hg:o.guard=none)(s:Nat)(hd:o.dst=some s)(hsl:slots.getD i 0=s)(hin:s<a0.tmps.size)(v:Value)(hv:vals.getD i undef=v)(hw:rows.find? (fun x=>x.1==i)=none)
 (h:∀listed a u D,RInv ops (rowsRF base k e slots vals rows) w0 a0 listed a u D→(∀ e∈o.after,Region.binds .any e=true→listed.getD e.on false=true)→listed.getD i false=false→(execOp a.eval o).run P u=.ok (.value v) u):RStep P ops Q (rowsRF base k e slots vals rows) w0 a0 i o:=
 RStep.pure hg s hd hsl hin fun listed a u D hI hr hn=>⟨v,h listed a u D hI hr hn,by
  show(match rows.find? (fun x=>x.1==i)with|some x=>ownF base k e x.2.1 x.2.2 v (fun _=>False) u|none=>pureF (fun v=>v=vals.getD i undef) v (fun _=>False));rw[hw];exact pureF.new hv.symm⟩
theorem rowsRF.callV(hg:o.guard=none)(s:Nat)(hd:o.dst=some s)(hsl:slots.getD i 0=s)(hin:s<a0.tmps.size)(v:Value)(hv:vals.getD i undef=v)(hw:rows.find? (fun x=>x.1==i)=none)
 (h:∀listed a u D,RInv ops (rowsRF base k e slots vals rows) w0 a0 listed a u D→(∀ e∈o.after,Region.binds .any e=true→listed.getD e.on false=true)→listed.getD i false=false→∃f args,(execOp a.eval o).run P u=.ok (.enter f args) u∧Calls P f args u fun en u'=>en=.returned v∧Below u.heap.size u u'):RStep P ops Q (rowsRF base k e slots vals rows) w0 a0 i o:=
 RStep.call hg s hd hsl hin fun listed a u D hI hr hn=>by
  obtain⟨f,args,e1,hc⟩:=h listed a u D hI hr hn;refine⟨f,args,e1,hc.mono ?_⟩;rintro en u' ⟨rfl,hb⟩;refine⟨v,fun _=>False,rfl,hI.old.trans (hb.mono hI.old.size),hb.size,fun b hlt _=>hb.block b hlt,fun b hd=>hd.elim,?_⟩;show(match rows.find? (fun x=>x.1==i)with|some x=>ownF base k e x.2.1 x.2.2 v (fun _=>False) u'|none=>pureF (fun v=>v=vals.getD i undef) v (fun _=>False));rw[hw];exact pureF.new hv.symm
theorem rowsRF.callStep(hg:o.guard=none)(s:Nat)(hd:o.dst=some s)(hsl:slots.getD i 0=s)(hin:s<a0.tmps.size){n:Nat}{vs:List Value}(hw:rows.find? (fun x=>x.1==i)=some (i,n,vs))(hb:base≤w0.heap.size)
 (h:∀listed a u D,RInv ops (rowsRF base k e slots vals rows) w0 a0 listed a u D→(∀ e∈o.after,Region.binds .any e=true→listed.getD e.on false=true)→listed.getD i false=false→∃f args,(execOp a.eval o).run P u=.ok (.enter f args) u∧Calls P f args u fun en u'=>∃v,en=.returned v∧Below u.heap.size u u'∧OwnK u' u.heap.size e k v n vs):RStep P ops Q (rowsRF base k e slots vals rows) w0 a0 i o:=
 RStep.call hg s hd hsl hin fun listed a u D hI hr hn=>by
  obtain⟨f,args,e1,hc⟩:=h listed a u D hI hr hn;refine⟨f,args,e1,hc.mono ?_⟩;rintro en u' ⟨v,rfl,hbl,ho⟩;refine⟨v,fun b=>v.ownBlock=some b,rfl,hI.old.trans (hbl.mono hI.old.size),hbl.size,fun b hlt _=>hbl.block b hlt,fun b hq=>.inr (k_6 ho hq),?_⟩;show(match rows.find? (fun x=>x.1==i)with|some x=>ownF base k e x.2.1 x.2.2 v (fun b=>v.ownBlock=some b) u'|none=>pureF (fun v=>v=vals.getD i undef) v (fun b=>v.ownBlock=some b));rw[hw];exact⟨ho.lower (Nat.le_trans hb hI.old.size),fun b=>Iff.rfl⟩
end
end Mem
namespace Mem
structure BoxD where
 ab:Nat
 st:Nat
 t:TypeId
 zs:List Value
 ws:List Value
def BoxD.made(boxes:List BoxD)(k:Nat):Option BoxD:=boxes.find? fun b=>b.ab==k
def BoxD.done(boxes:List BoxD)(k:Nat):Option BoxD:=boxes.find? fun b=>b.st==k
def boxesRF(slots:List Nat)(vals:List Value)(boxes:List BoxD):RF:=
 ⟨fun k=>slots.getD k 0,fun k=>(BoxD.made boxes k).map (·.st),fun k v D u=>
   match BoxD.made boxes k with
   |some b=>blkF (fun g=>.pointer (some ⟨g,0,none⟩)) b.t b.zs v D u
   |none=>match BoxD.done boxes k with
    |some b=>blkF (fun g=>.pointer (some ⟨g,0,none⟩)) b.t b.ws v D u
    |none=>pureF (fun v=>v=vals.getD k undef) v D⟩
theorem boxesRF.mon{slots:List Nat}{vals:List Value}{boxes:List BoxD}(k:Nat)(v:Value)(D:Nat→Prop)(u u':World)(h:(boxesRF slots vals boxes).fact k v D u)(hk:∀b,D b→u'.heap[b]?=u.heap[b]?):(boxesRF slots vals boxes).fact k v D u':=by
 revert h;simp only[boxesRF];split
 ·exact fun h=>h.mon hk
 ·split
  ·exact fun h=>h.mon hk
  ·exact fun h=>h
section
variable {P : Program} {ops : Array Oper} {Q : Exit → Act → World → Prop} {w0 : World} {a0 : Act} {i : Nat} {o : Oper} {listed : Array Bool} {a : Act} {u : World} {D : Nat → Nat → Prop} {slots : List Nat} {vals : List Value} {boxes : List BoxD}
theorem boxesRF.val(h:RInv ops (boxesRF slots vals boxes) w0 a0 listed a u D)(hr:∀e∈o.after,Region.binds .any e=true→listed.getD e.on false=true)(hn:listed.getD i false=false)(j:Nat)(hj:depB o j=true)(h1:BoxD.made boxes j=none)(h2:BoxD.done boxes j=none){s:Nat}{v:Value}(hs:slots.getD j 0=s)(hv:vals.getD j undef=v):a.eval (.tmp s)=v:=by
 have hg:=(h.get hr hn j hj (.inl (by simp only[boxesRF];rw[h1];rfl))).1;simp only[boxesRF]at hg;rw[h1,h2]at hg;rw[← hs,←hv];exact hg.1
theorem boxesRF.pureStep(hg:o.guard=none)(s:Nat)(hd:o.dst=some s)(hsl:slots.getD i 0=s)(hin:s<a0.tmps.size)(h1:BoxD.made boxes i=none)(h2:BoxD.done boxes i=none)(v:Value)(hv:vals.getD i undef=v)
 (h:∀listed a u D,RInv ops (boxesRF slots vals boxes) w0 a0 listed a u D→(∀ e∈o.after,Region.binds .any e=true→listed.getD e.on false=true)→listed.getD i false=false→(execOp a.eval o).run P u=.ok (.value v) u):RStep P ops Q (boxesRF slots vals boxes) w0 a0 i o:=
 RStep.pure hg s hd hsl hin fun listed a u D hI hr hn=>⟨v,h listed a u D hI hr hn,by
  simp only[boxesRF];rw[h1,h2];exact pureF.new hv.symm⟩
theorem boxesRF.callStep(hg:o.guard=none)(s:Nat)(hd:o.dst=some s)(hsl:slots.getD i 0=s)(hin:s<a0.tmps.size)(h1:BoxD.made boxes i=none)(h2:BoxD.done boxes i=none)(v:Value)(hv:vals.getD i undef=v)
 (h:∀listed a u D,RInv ops (boxesRF slots vals boxes) w0 a0 listed a u D→(∀ e∈o.after,Region.binds .any e=true→listed.getD e.on false=true)→listed.getD i false=false→∃f args,(execOp a.eval o).run P u=.ok (.enter f args) u∧Calls P f args u fun e u'=>e=.returned v∧Below u.heap.size u u'):RStep P ops Q (boxesRF slots vals boxes) w0 a0 i o:=
 RStep.call hg s hd hsl hin fun listed a u D hI hr hn=>by
  obtain⟨f,args,e1,hc⟩:=h listed a u D hI hr hn;refine⟨f,args,e1,hc.mono ?_⟩;rintro e u' ⟨rfl,hb⟩;refine⟨v,fun _=>False,rfl,hI.old.trans (hb.mono hI.old.size),hb.size,fun b hlt _=>hb.block b hlt,fun b hd=>hd.elim,?_⟩;simp only[boxesRF];rw[h1,h2];exact pureF.new hv.symm
theorem boxesRF.allocStep(hg:o.guard=none)(s:Nat)(hd:o.dst=some s)(hsl:slots.getD i 0=s)(hin:s<a0.tmps.size){b:BoxD}(h1:BoxD.made boxes i=some b)
 (h:∀(a:Act) (u:World),(execOp a.eval o).run P u=.ok (.value (.pointer (some ⟨u.heap.size,0,none⟩))) (u.alloc (.cells b.zs.toArray b.t))):RStep P ops Q (boxesRF slots vals boxes) w0 a0 i o:=
 RStep.val hg s hd hsl hin fun listed a u D hI hr hn=>⟨_,_,fun b=>b=u.heap.size,h a u,hI.old.alloc hI.old.size _,by simp,fun b hlt _=>Below.heap_alloc u _ b hlt,fun b hd=>.inr (by subst hd;simp),by
  simp only[boxesRF];rw[h1];exact⟨_,rfl,Blk.new u _ _,fun b=>Iff.rfl⟩⟩
theorem boxesRF.storeStep(hg:o.guard=none)(hd:o.dst=none){s:Nat}{b:BoxD}(h1:BoxD.made boxes i=none)(h2:BoxD.done boxes i=some b)(h3:BoxD.made boxes b.ab=some b)(h4:b.st=i)(hsl:slots.getD i 0=s)(hsa:slots.getD b.ab 0=s)(hdep:depB o b.ab=true)
 (h:∀listed a u D,RInv ops (boxesRF slots vals boxes) w0 a0 listed a u D→(∀ e∈o.after,Region.binds .any e=true→listed.getD e.on false=true)→listed.getD i false=false→∀g,a.eval (.tmp s)=.pointer (some ⟨g,0,none⟩)→Blk u g b.t b.zs→∃u',(execOp a.eval o).run P u=.ok .skip u'∧Only g u u'∧Blk u' g b.t b.ws):RStep P ops Q (boxesRF slots vals boxes) w0 a0 i o:=
 RStep.store hg hd fun listed a u D hI hr hn=>by
  have he:(boxesRF slots vals boxes).eater b.ab=some i:=by simp only[boxesRF];rw[h3];simp[h4]
  obtain⟨h5,hin⟩:=hI.get hr hn b.ab hdep (.inr he);simp only[boxesRF]at h5;rw[h3]at h5;obtain⟨g,e1,hb,hD⟩:=h5;rw[hsa]at e1;have hg2:=hin g ((hD g).2 rfl);obtain⟨u',h6,h7,h8⟩:=h listed a u D hI hr hn g e1 hb;refine⟨u',fun b=>b=g,h6,hI.old.trans (h7.below.mono hg2.1),Nat.le_of_eq h7.size.symm,fun c _ hn2=>h7.other c fun e=>hn2 b.ab he (by rw[e];exact(hD g).2 rfl),fun c hd=>.inl ⟨b.ab,he,by rw[hd];exact(hD g).2 rfl⟩,?_⟩;simp only[boxesRF];rw[h1,h2];refine⟨g,?_,h8,fun b=>Iff.rfl⟩;rw[hsl];exact e1
theorem boxesRF.free{n:Nat}(h:(boxes.all fun b=>decide (b.ab<n))=true)(q:Nat)(hq:n≤q):(boxesRF slots vals boxes).eater q=none:=by
 have:BoxD.made boxes q=none:=by
  unfold BoxD.made;rw[List.find?_eq_none];intro b hb;have:=List.all_eq_true.1 h b hb;simp at this ⊢;omega
 simp only[boxesRF];rw[this];rfl
theorem boxesRF.box{l:List Oper}(h:RInv l.toArray (boxesRF slots vals boxes) w0 a0 listed a u D)(hall:∀i,i<l.length→listed.getD i false=true){b:BoxD}(j:Nat)(hj:j<l.length)(h1:BoxD.made boxes j=none)(h2:BoxD.done boxes j=some b){s:Nat}(hsl:slots.getD j 0=s):∃g,a.tmps.getD s undef=.pointer (some ⟨g,0,none⟩)∧Blk u g b.t b.ws:=by
 have h3:=h.fact j ⟨hall j hj,fun k hk=>by simp only[boxesRF]at hk;rw[h1]at hk;cases hk⟩;simp only[boxesRF]at h3;rw[h1,h2]at h3;obtain⟨g,e1,hb,_⟩:=h3;rw[hsl]at e1;exact⟨g,e1,hb⟩
end
end Mem
namespace Mem
def sucB(ops:Array Oper):Bool:=(List.range (ops.size-1)).all fun j=>(List.range ops.size).any fun k=>decide (j<k) && (match ops[k]? with|none=>false|some o=>depB o j)
theorem a_4{o:Oper}{j:Nat}(h:depB o j=true):∃e∈o.after,e.on=j∧Region.binds .any e=true:=by
 unfold depB at h;simp only[Array.any_eq_true,Bool.and_eq_true,beq_iff_eq]at h;obtain⟨i,hi,h1,h2⟩:=h;exact⟨_,Array.getElem_mem hi,h1,h2⟩
theorem s_Z{ops:Array Oper}(h:sucB ops=true){j:Nat}(hj:j+1<ops.size):∃(k:Nat) (o:Oper),j<k∧ops[k]?=some o∧∃e∈o.after,e.on=j∧Region.binds .any e=true:=by
 have h1:=List.all_eq_true.1 h j (List.mem_range.2 (by omega));rw[List.any_eq_true]at h1;obtain⟨k,hk,h2⟩:=h1;simp only[Bool.and_eq_true,decide_eq_true_eq]at h2;cases ho:ops[k]? with
 |none=>rw[ho]at h2;simp at h2
 |some o=>rw[ho]at h2;exact⟨k,o,h2.1,ho,a_4 h2.2⟩
section
variable {P : Program} {Q : Exit → Act → World → Prop} {a0 : Act}
theorem n_u{ops:Array Oper}{R:RF}{w0 u:World}{a:Act}{listed:Array Bool}{D:Nat→Nat→Prop}{z:Nat}{oz:Oper}(h:RInv ops R w0 a0 listed a u D)(hs:sucB ops=true)(hz:ops.size=z+1)(hoz:ops[z]?=some oz)(hr:∀e∈oz.after,Region.binds .any e=true→listed.getD e.on false=true):∀j,j<z→listed.getD j false=true:=by
 have key:∀(m j:Nat),z-j≤m→j<z→listed.getD j false=true:=by
  intro m;induction m with
  |zero=>intro j h1 h2;omega
  |succ m ih=>
   intro j h1 h2;obtain⟨k,o,hk,ho,e,he,e1,e2⟩:=s_Z hs (j:=j) (by omega);have hkl:=(Array.getElem?_eq_some_iff.1 ho).1;by_cases hkz:k=z
   ·subst hkz
    rw[hoz]at ho;injection ho with ho;subst ho;rw[← e1];exact hr e he e2
   ·have h3:=ih k (by omega) (by omega)
    rw[← e1];exact h.down k o ho h3 e he e2
 exact fun j hj=>key z j (by omega) hj
theorem g_W{id:Nat}{w:World}{l:List Oper}{o:Oper}(R:RF)(hm:P.follows .mixedOrders=true)(h1:topB (l++[o]).toArray=true)(h2:k_H (l++[o]).toArray R.slot=true)(h3:∀j,l.length+1≤j→R.eater j=none)(h4:eatB (l++[o]).toArray R.eater=true)(h5:sucB (l++[o]).toArray=true)
 (hmon:∀i v D u u',R.fact i v D u→(∀ b,D b→u'.heap[b]?=u.heap[b]?)→R.fact i v D u')
 (hs:StepsFrom P (l++[o]).toArray Q R w.drew a0 0 l) (hg:o.guard=none)
 (hlast:∀listed a u D,RInv (l++[o]).toArray R w.drew a0 listed a u D→(∀ i,i<l.length→listed.getD i false=true)→(∀ e∈o.after,Region.binds .any e=true→listed.getD e.on false=true)→listed.getD l.length false=false→∀K:Act→World→Prop,(∀ a' u',Q .normal a' u'→K a' u')→Oper.wp P o a u K Q):(Code.region id (l++[o]).toArray true).wp P Q a0 w:=by
 have htop:=f_5 h1;have hslot:=e_r h2;have heat:=f_6 (by simpa using h3) h4;have hsz:(l++[o]).toArray.size=l.length+1:=by simp
 have hoz:(l++[o]).toArray[l.length]?=some o:=by simp
 obtain⟨ops,hops⟩:∃ops,(l++[o]).toArray=ops:=⟨_,rfl⟩
 have hpre:∀(i:Nat) (oi:Oper),i<l.length→ops[i]?=some oi→l[i]?=some oi:=fun i oi hi ho=>by
  rw[← hops]at ho;simpa[List.getElem?_append_left hi]using ho
 rw[hops]at hs hlast hsz hoz htop hslot heat h5 ⊢;refine wp_region_any hm ?_
 have done:∀(fuel:Nat) (listed:Array Bool) (a:Act) (u:World),(∀ i,i<ops.size→listed.getD i false=true)→Q .normal a u→wpAny P .any ops Q fuel listed a u:=by
  intro fuel listed a u hall hq
  have hnil:Region.ready .any ops listed=[]:=by
   refine List.eq_nil_iff_forall_not_mem.2 fun i hi=>?_;obtain⟨h0,oi,ho,_⟩:=mem_ready.1 hi;have hlt:=(Array.getElem?_eq_some_iff.1 ho).1;have:=hall i hlt;cases hx:listed[i]? with
   |none=>simp[Array.getD_eq_getD_getElem?,hx]at this
   |some b=>simp[Array.getD_eq_getD_getElem?,hx]at this h0;rw[this]at h0;cases h0
  cases fuel with
  |zero=>exact⟨hnil,hq⟩
  |succ fuel=>exact⟨fun _=>hq,fun i hi=>by rw[hnil]at hi;cases hi⟩
 have main:∀(fuel:Nat) (listed:Array Bool) (a:Act) (u:World) (D:Nat→Nat→Prop),listed.toList.countP (fun b=>!b)≤fuel→RInv ops R w.drew a0 listed a u D→listed.getD l.length false=false→wpAny P .any ops Q fuel listed a u:=by
  intro fuel;induction fuel with
  |zero=>
   intro listed a u D hc hI hz;exfalso;have h0:=List.countP_eq_zero.1 (Nat.le_zero.1 hc);have hlt:l.length<listed.size:=by rw[hI.size,hsz];omega
   have:=h0 listed[l.length] (by simp);simp[hlt]at hz;rw[hz]at this;simp at this
  |succ fuel ih=>
   intro listed a u D hc hI hz;refine⟨fun hr=>?_,fun i hi=>?_⟩
   ·have:=c_r htop hI.size hr l.length (by rw[hsz];omega)
    rw[hz]at this;cases this
   obtain⟨h0,oi,ho,hr⟩:=mem_ready.1 hi;have hlt:=(Array.getElem?_eq_some_iff.1 ho).1;have hlt':i<listed.size:=by rw[hI.size];exact hlt
   have hn:listed.getD i false=false:=by simpa[hlt']using h0
   by_cases hiz:i=l.length
   ·subst hiz
    rw[hoz]at ho;injection ho with ho;subst ho;have hall:=n_u hI h5 hsz hoz hr;refine wpOp_step hoz fun K' hK=>?_;rw[if_pos (by simp[Region.wanted,hg])];refine hlast listed a u D hI hall hr hz K' fun a' u' hq=>hK _ _ (done fuel _ a' u' (fun j hj=>?_) hq);by_cases e:j=l.length
    ·subst e
     simp[hlt']
    ·exact getD_set_true (hall j (by omega))
   ·have hil:i<l.length:=by omega
    refine wpOp_step ho fun K' hK=>?_;have hst:=hs.at_ (hpre i oi hil ho);rw[Nat.zero_add]at hst;refine hst listed a u D hI hr hn K' fun v u' D' hp=>hK _ _ ?_;refine ih _ _ _ _ ?_ (hI.next hslot heat hmon ho hn hr hp) ?_
    ·have hb:listed[i]=false:=by simpa[hlt']using hn
     rw[Array.toList_setIfInBounds,List.countP_set (by simpa using hlt')];simp[hb];have hpos:0<listed.toList.countP (fun b=>!b):=List.countP_pos_iff.2 ⟨listed[i],by simp,by simp[hb]⟩;rw[Array.countP_toList]at hc hpos;omega
    ·rw[getD_set_ne false (by omega)]
     exact hz
 refine main ops.size _ a0 _ (fun _ _=>False) ?_ ?_ ?_
 ·refine Nat.le_trans List.countP_le_length ?_
  simp
 ·refine⟨by simp,fun i o _ hl=>?_,rfl,rfl,fun _ _=>rfl,Below.refl _ _,fun i hl=>?_,fun i b hl=>?_,fun i j b _ hl=>?_⟩
  all_goals
   exfalso
   first
    |(have:=hl.1;simp[Array.getElem?_replicate]at this;done)
    |(have:=hl.1;simp[Array.getElem?_replicate]at this;split at this<;>simp at this)
    |(simp[Array.getElem?_replicate]at hl;done)
    |(simp[Array.getElem?_replicate]at hl;split at hl<;>simp at hl)
 ·simp[Array.getElem?_replicate,hsz]
theorem d_F{id:Nat}{w:World}{L l:List Oper}{o:Oper}(hL:L=l++[o])(R:RF)(hm:P.follows .mixedOrders=true)(h1:topB L.toArray=true)(h2:k_H L.toArray R.slot=true)(h3:∀j,L.length≤j→R.eater j=none)(h4:eatB L.toArray R.eater=true)(h5:sucB L.toArray=true)
 (hmon:∀i v D u u',R.fact i v D u→(∀ b,D b→u'.heap[b]?=u.heap[b]?)→R.fact i v D u')
 (hs:StepsFrom P L.toArray Q R w.drew a0 0 l) (hg:o.guard=none)
 (hlast:∀listed a u D,RInv L.toArray R w.drew a0 listed a u D→(∀ i,i<l.length→listed.getD i false=true)→(∀ e∈o.after,Region.binds .any e=true→listed.getD e.on false=true)→listed.getD l.length false=false→∀K:Act→World→Prop,(∀ a' u',Q .normal a' u'→K a' u')→Oper.wp P o a u K Q):(Code.region id L.toArray true).wp P Q a0 w:=by
 subst hL;exact g_W R hm h1 h2 (by simpa using h3) h4 h5 hmon hs hg hlast
theorem e_Z{o:Oper}{a:Act}{u u':World}{K:Act→World→Prop}(hd:o.dst=none)(hr:(execOp a.eval o).run P u=.ok .skip u')(h:K a u'):Oper.wp P o a u K Q:=by
 unfold Oper.wp;rw[hr];show K (a.put o.dst undef) u';rw[hd];exact h
end
end Mem
namespace Mem
abbrev rndF(l:Nat):Fence:=Fence.wide.inRound l
def e_0(o:Oper):Bool:=match o.op with
 | .defer _=>false
 |_=>true
theorem n_v{o:Oper}(h:e_0 o=true):∀c,o.op≠.defer c:=by
 intro c e;simp[e_0,e]at h
section
variable {P : Program} {ops : Array Oper} {Q : Exit → Act → World → Prop} {R : RF} {w0 : World} {a0 : Act} {l n : Nat}
theorem n_w{row:String}{args:Array Value}{w:World}{R:Value→World→Prop}(h:Rows P row args w R):RowsIn (rndF l) n P row args w R:=
 fun c cs _=>let ⟨v,w',r,s⟩:=h c cs;⟨v,w',r,stepsIn_wide.2 s⟩
theorem n_x{o:Oper}{a:Act}{u:World}{K:Act→World→Prop}(hd:e_0 o=true)(h:Oper.wp P o a u K Q):Oper.wpIn (rndF l) n P o a u K Q:=by
 unfold Oper.wpIn;refine⟨fun _ _=>trivial,?_⟩;rw[show(rndF l).round=some l from rfl,Oper.semAt_some l _ _ (n_v hd)];unfold Oper.wp at h;revert h;generalize (execOp a.eval o).run P u=r;intro h;cases r with
 |ok x w'=>
  cases x<;>simp only[Oper.upon,Oper.uponIn]at h ⊢<;>
   first
    |exact h
    |exact⟨fun h=>by simp[rndF,Fence.wide,Fence.inRound]at h,CallsIn.inRound l (callsIn_wide.2 h)⟩
    |exact⟨fun h=>by simp[rndF,Fence.wide,Fence.inRound]at h,n_w h⟩
    |exact h.elim
 |halt x w'=>cases x<;>simp only[Oper.upon,Oper.uponIn]at h ⊢<;>exact h
theorem g_x{id:Nat}{w:World}(R:RF)(hm:P.follows .mixedOrders=true)(hnd:ops.all e_0=true)
 (htop:∀(i:Nat) (o:Oper),ops[i]?=some o→∀e∈o.after,Region.binds .any e=true→e.on<i)
 (hslot:∀(i j:Nat) (o oi:Oper),ops[j]?=some o→ops[i]?=some oi→o.dst=some (R.slot i)→j=i∨∃e∈oi.after,e.on=j∧Region.binds .any e=true)
 (heat:∀(j i:Nat) (oi:Oper),R.eater j=some i→ops[i]?=some oi→∃e∈oi.after,e.on=j∧Region.binds .any e=true)
 (hmon:∀i v D u u',R.fact i v D u→(∀ b,D b→u'.heap[b]?=u.heap[b]?)→R.fact i v D u')
 (hstep:∀(i:Nat) (o:Oper),ops[i]?=some o→RStep P ops Q R w.drew a0 i o)
 (hdone:∀listed a u D,RInv ops R w.drew a0 listed a u D→(∀ i,i<ops.size→listed.getD i false=true)→Q .normal a u):(Code.region id ops true).wpIn (rndF l) n P Q a0 w:=by
 refine wpIn_region_any hm ?_
 have main:∀(fuel:Nat) (listed:Array Bool) (a:Act) (u:World) (D:Nat→Nat→Prop),listed.toList.countP (fun b=>!b)≤fuel→RInv ops R w.drew a0 listed a u D→wpAnyIn (rndF l) n P .any ops Q fuel listed a u:=by
  intro fuel;induction fuel with
  |zero=>
   intro listed a u D hc hI
   have hall:∀i,i<ops.size→listed.getD i false=true:=fun i hi=>by
    have h0:=List.countP_eq_zero.1 (Nat.le_zero.1 hc);have hlt:i<listed.size:=by rw[hI.size];exact hi
    have:=h0 listed[i] (by simp);simpa[hlt]using this
   refine⟨?_,hdone listed a u D hI hall⟩;refine List.eq_nil_iff_forall_not_mem.2 fun i hi=>?_;rw[mem_ready]at hi;obtain⟨h0,o,ho,_⟩:=hi;have hlt:=(Array.getElem?_eq_some_iff.1 ho).1;have h1:=hall i hlt;have hlt':i<listed.size:=by rw[hI.size];exact hlt
   simp[hlt']at h0 h1;rw[h0]at h1;cases h1
  |succ fuel ih=>
   intro listed a u D hc hI;refine⟨fun hr=>hdone listed a u D hI (c_r htop hI.size hr),fun i hi=>?_⟩;obtain⟨h0,o,ho,hr⟩:=mem_ready.1 hi;have hlt:=(Array.getElem?_eq_some_iff.1 ho).1;have hlt':i<listed.size:=by rw[hI.size];exact hlt
   have hn:listed.getD i false=false:=by simpa[hlt']using h0
   have hst:=hstep i o ho listed a u D hI hr hn (wpAnyIn (rndF l) n P .any ops Q fuel (listed.setIfInBounds i true)) fun v u' D' hp=>by
    refine ih _ _ _ _ ?_ (hI.next hslot heat hmon ho hn hr hp);have hb:listed[i]=false:=by simpa[hlt']using hn
    rw[Array.toList_setIfInBounds,List.countP_set (by simpa using hlt')];simp[hb];have hpos:0<listed.toList.countP (fun b=>!b):=List.countP_pos_iff.2 ⟨listed[i],by simp,by simp[hb]⟩;rw[Array.countP_toList]at hc hpos;omega
   have hno:e_0 o=true:=(Array.all_eq_true_iff_forall_mem.1 hnd) o (Array.mem_of_getElem? ho);unfold wpOpIn;simp only[ho];by_cases hw:Region.wanted o (yielded ops a.tmps)=true
   ·rw[if_pos hw]at hst ⊢
    exact n_x hno hst
   ·rw[if_neg hw]at hst ⊢
    exact⟨fun _ _=>trivial,hst⟩
 refine main ops.size _ a0 _ (fun _ _=>False) ?_ ?_
 ·refine Nat.le_trans List.countP_le_length ?_
  simp
 ·refine⟨by simp,fun i o _ hl=>?_,rfl,rfl,fun _ _=>rfl,Below.refl _ _,fun i hl=>?_,fun i b hl=>?_,fun i j b _ hl=>?_⟩
  all_goals
   exfalso
   first
    |(have:=hl.1;simp[Array.getElem?_replicate]at this;done)
    |(have:=hl.1;simp[Array.getElem?_replicate]at this;split at this<;>simp at this)
    |(simp[Array.getElem?_replicate]at hl;done)
    |(simp[Array.getElem?_replicate]at hl;split at hl<;>simp at hl)
theorem e_1{id:Nat}{w:World}{ls:List Oper}(R:RF)(hm:P.follows .mixedOrders=true)(hnd:ls.toArray.all e_0=true)(h1:topB ls.toArray=true)(h2:k_H ls.toArray R.slot=true)(h3:∀j,ls.length≤j→R.eater j=none)(h4:eatB ls.toArray R.eater=true)
 (hmon:∀i v D u u',R.fact i v D u→(∀ b,D b→u'.heap[b]?=u.heap[b]?)→R.fact i v D u')
 (hs:StepsFrom P ls.toArray Q R w.drew a0 0 ls)
 (hdone:∀listed a u D,RInv ls.toArray R w.drew a0 listed a u D→(∀ i,i<ls.length→listed.getD i false=true)→Q .normal a u):(Code.region id ls.toArray true).wpIn (rndF l) n P Q a0 w:=
 g_x R hm hnd (f_5 h1) (e_r h2) (f_6 (by simpa using h3) h4) hmon (fun i o ho=>by
  have:=hs.at_ (j:=i) (o:=o) (by simpa using ho);rw[Nat.zero_add]at this;exact this) (by simpa using hdone)
end
end Mem
namespace Mem
structure RowD where
 at_:Nat
 k:Nat
 e:TypeId
 n:Nat
 vs:List Value
def RowD.of(rows:List RowD)(i:Nat):Option RowD:=rows.find? fun x=>x.at_==i
def mixRF(base:Nat)(slots:List Nat)(vals:List Value)(rows:List RowD)(boxes:List BoxD):RF:=
 ⟨fun k=>slots.getD k 0,fun k=>(BoxD.made boxes k).map (·.st),fun k v D u=>
   match BoxD.made boxes k with
   |some b=>blkF (fun g=>.pointer (some ⟨g,0,none⟩)) b.t b.zs v D u
   |none=>match BoxD.done boxes k with
    |some b=>blkF (fun g=>.pointer (some ⟨g,0,none⟩)) b.t b.ws v D u
    |none=>match RowD.of rows k with
     |some x=>ownF base x.k x.e x.n x.vs v D u
     |none=>pureF (fun v=>v=vals.getD k undef) v D⟩
theorem mixRF.mon{base:Nat}{slots:List Nat}{vals:List Value}{rows:List RowD}{boxes:List BoxD}(k:Nat)(v:Value)(D:Nat→Prop)(u u':World)(h:(mixRF base slots vals rows boxes).fact k v D u)(hk:∀b,D b→u'.heap[b]?=u.heap[b]?):(mixRF base slots vals rows boxes).fact k v D u':=by
 revert h;simp only[mixRF];split
 ·exact fun h=>h.mon hk
 ·split
  ·exact fun h=>h.mon hk
  ·split
   ·exact fun h=>ownF.mon h hk
   ·exact fun h=>h
section
variable {P : Program} {ops : Array Oper} {Q : Exit → Act → World → Prop} {w0 : World} {a0 : Act} {i : Nat} {o : Oper} {listed : Array Bool} {a : Act} {u : World} {D : Nat → Nat → Prop} {base : Nat} {slots : List Nat} {vals : List Value} {rows : List RowD} {boxes : List BoxD}
def e_F(rows:List RowD)(boxes:List BoxD)(i:Nat):Bool:=(BoxD.made boxes i).isNone && (BoxD.done boxes i).isNone && (RowD.of rows i).isNone
theorem g_y(h:e_F rows boxes i=true):BoxD.made boxes i=none∧BoxD.done boxes i=none∧RowD.of rows i=none:=by
 simp only[e_F,Bool.and_eq_true,Option.isNone_iff_eq_none]at h;exact⟨h.1.1,h.1.2,h.2⟩
theorem mixRF.val(h:RInv ops (mixRF base slots vals rows boxes) w0 a0 listed a u D)(hr:∀e∈o.after,Region.binds .any e=true→listed.getD e.on false=true)(hn:listed.getD i false=false)(j:Nat)(hj:depB o j=true)(hp:e_F rows boxes j=true){s:Nat}{v:Value}(hs:slots.getD j 0=s)(hv:vals.getD j undef=v):a.eval (.tmp s)=v:=by
 obtain⟨h1,h2,h3⟩:=g_y hp;have hg:=(h.get hr hn j hj (.inl (by simp only[mixRF];rw[h1];rfl))).1;simp only[mixRF]at hg;rw[h1,h2,h3]at hg;rw[← hs,←hv];exact hg.1
theorem mixRF.row(h:RInv ops (mixRF base slots vals rows boxes) w0 a0 listed a u D)(hr:∀e∈o.after,Region.binds .any e=true→listed.getD e.on false=true)(hn:listed.getD i false=false)(j:Nat)(hj:depB o j=true)(h1:BoxD.made boxes j=none)(h2:BoxD.done boxes j=none){x:RowD}(hx:RowD.of rows j=some x){s:Nat}(hs:slots.getD j 0=s):
 ∃A c,a.tmps.getD s undef=.slice A x.n c∧x.n≤c∧Recs u u.heap.size A x.n x.k x.vs:=by
 have hg:=(h.get hr hn j hj (.inl (by simp only[mixRF];rw[h1];rfl))).1;simp only[mixRF]at hg;rw[h1,h2,hx]at hg;rw[hs]at hg;exact OwnK.read hg.1
theorem f_F(hp:e_F rows boxes i=true){v:Value}(hv:vals.getD i undef=v):(mixRF base slots vals rows boxes).fact i v (fun _=>False) u:=by
 obtain⟨h1,h2,h3⟩:=g_y hp;simp only[mixRF];rw[h1,h2,h3];exact pureF.new hv.symm
theorem mixRF.pureStep(hg:o.guard=none)(s:Nat)(hd:o.dst=some s)(hsl:slots.getD i 0=s)(hin:s<a0.tmps.size)(hp:e_F rows boxes i=true)(v:Value)(hv:vals.getD i undef=v)
 (h:∀listed a u D,RInv ops (mixRF base slots vals rows boxes) w0 a0 listed a u D→(∀ e∈o.after,Region.binds .any e=true→listed.getD e.on false=true)→listed.getD i false=false→(execOp a.eval o).run P u=.ok (.value v) u):RStep P ops Q (mixRF base slots vals rows boxes) w0 a0 i o:=
 RStep.pure hg s hd hsl hin fun listed a u D hI hr hn=>⟨v,h listed a u D hI hr hn,f_F hp hv⟩
theorem mixRF.callV(hg:o.guard=none)(s:Nat)(hd:o.dst=some s)(hsl:slots.getD i 0=s)(hin:s<a0.tmps.size)(hp:e_F rows boxes i=true)(v:Value)(hv:vals.getD i undef=v)
 (h:∀listed a u D,RInv ops (mixRF base slots vals rows boxes) w0 a0 listed a u D→(∀ e∈o.after,Region.binds .any e=true→listed.getD e.on false=true)→listed.getD i false=false→∃f args,(execOp a.eval o).run P u=.ok (.enter f args) u∧Calls P f args u fun en u'=>en=.returned v∧Below u.heap.size u u'):RStep P ops Q (mixRF base slots vals rows boxes) w0 a0 i o:=
 RStep.call hg s hd hsl hin fun listed a u D hI hr hn=>by
  obtain⟨f,args,e1,hc⟩:=h listed a u D hI hr hn;refine⟨f,args,e1,hc.mono ?_⟩;rintro en u' ⟨rfl,hb⟩;exact⟨v,fun _=>False,rfl,hI.old.trans (hb.mono hI.old.size),hb.size,fun b hlt _=>hb.block b hlt,fun b hd=>hd.elim,f_F hp hv⟩
theorem p_X{v:Value}{u':World}(h1:BoxD.made boxes i=none)(h2:BoxD.done boxes i=none){x:RowD}(hx:RowD.of rows i=some x)(hb:base≤w0.heap.size)(hI:w0.heap.size≤u.heap.size)(ho:OwnK u' u.heap.size x.e x.k v x.n x.vs):(mixRF base slots vals rows boxes).fact i v (fun b=>v.ownBlock=some b) u':=by
 simp only[mixRF];rw[h1,h2,hx];exact⟨ho.lower (Nat.le_trans hb hI),fun b=>Iff.rfl⟩
theorem mixRF.callRow(hg:o.guard=none)(s:Nat)(hd:o.dst=some s)(hsl:slots.getD i 0=s)(hin:s<a0.tmps.size)(h1:BoxD.made boxes i=none)(h2:BoxD.done boxes i=none){x:RowD}(hx:RowD.of rows i=some x)(hb:base≤w0.heap.size)
 (h:∀listed a u D,RInv ops (mixRF base slots vals rows boxes) w0 a0 listed a u D→(∀ e∈o.after,Region.binds .any e=true→listed.getD e.on false=true)→listed.getD i false=false→∃f args,(execOp a.eval o).run P u=.ok (.enter f args) u∧Calls P f args u fun en u'=>∃v,en=.returned v∧Below u.heap.size u u'∧OwnK u' u.heap.size x.e x.k v x.n x.vs):RStep P ops Q (mixRF base slots vals rows boxes) w0 a0 i o:=
 RStep.call hg s hd hsl hin fun listed a u D hI hr hn=>by
  obtain⟨f,args,e1,hc⟩:=h listed a u D hI hr hn;refine⟨f,args,e1,hc.mono ?_⟩;rintro en u' ⟨v,rfl,hbl,ho⟩;exact⟨v,fun b=>v.ownBlock=some b,rfl,hI.old.trans (hbl.mono hI.old.size),hbl.size,fun b hlt _=>hbl.block b hlt,fun b hq=>.inr (k_6 ho hq),p_X h1 h2 hx hb hI.old.size ho⟩
theorem mixRF.allocStep(hg:o.guard=none)(s:Nat)(hd:o.dst=some s)(hsl:slots.getD i 0=s)(hin:s<a0.tmps.size){b:BoxD}(h1:BoxD.made boxes i=some b)
 (h:∀(a:Act) (u:World),(execOp a.eval o).run P u=.ok (.value (.pointer (some ⟨u.heap.size,0,none⟩))) (u.alloc (.cells b.zs.toArray b.t))):RStep P ops Q (mixRF base slots vals rows boxes) w0 a0 i o:=
 RStep.val hg s hd hsl hin fun listed a u D hI hr hn=>⟨_,_,fun b=>b=u.heap.size,h a u,hI.old.alloc hI.old.size _,by simp,fun b hlt _=>Below.heap_alloc u _ b hlt,fun b hd=>.inr (by subst hd;simp),by
  simp only[mixRF];rw[h1];exact⟨_,rfl,Blk.new u _ _,fun b=>Iff.rfl⟩⟩
theorem mixRF.storeStep(hg:o.guard=none)(hd:o.dst=none){s:Nat}{b:BoxD}(h1:BoxD.made boxes i=none)(h2:BoxD.done boxes i=some b)(h3:BoxD.made boxes b.ab=some b)(h4:b.st=i)(hsl:slots.getD i 0=s)(hsa:slots.getD b.ab 0=s)(hdep:depB o b.ab=true)
 (h:∀listed a u D,RInv ops (mixRF base slots vals rows boxes) w0 a0 listed a u D→(∀ e∈o.after,Region.binds .any e=true→listed.getD e.on false=true)→listed.getD i false=false→∀g,a.eval (.tmp s)=.pointer (some ⟨g,0,none⟩)→Blk u g b.t b.zs→∃u',(execOp a.eval o).run P u=.ok .skip u'∧Only g u u'∧Blk u' g b.t b.ws):RStep P ops Q (mixRF base slots vals rows boxes) w0 a0 i o:=
 RStep.store hg hd fun listed a u D hI hr hn=>by
  have he:(mixRF base slots vals rows boxes).eater b.ab=some i:=by simp only[mixRF];rw[h3];simp[h4]
  obtain⟨h5,hin⟩:=hI.get hr hn b.ab hdep (.inr he);simp only[mixRF]at h5;rw[h3]at h5;obtain⟨g,e1,hb,hD⟩:=h5;rw[hsa]at e1;have hg2:=hin g ((hD g).2 rfl);obtain⟨u',h6,h7,h8⟩:=h listed a u D hI hr hn g e1 hb;refine⟨u',fun b=>b=g,h6,hI.old.trans (h7.below.mono hg2.1),Nat.le_of_eq h7.size.symm,fun c _ hn2=>h7.other c fun e=>hn2 b.ab he (by rw[e];exact(hD g).2 rfl),fun c hd=>.inl ⟨b.ab,he,by rw[hd];exact(hD g).2 rfl⟩,?_⟩;simp only[mixRF];rw[h1,h2];refine⟨g,?_,h8,fun b=>Iff.rfl⟩;rw[hsl];exact e1
theorem mixRF.free{n:Nat}(h:(boxes.all fun b=>decide (b.ab<n))=true)(q:Nat)(hq:n≤q):(mixRF base slots vals rows boxes).eater q=none:=by
 have:BoxD.made boxes q=none:=by
  unfold BoxD.made;rw[List.find?_eq_none];intro b hb;have:=List.all_eq_true.1 h b hb;simp at this ⊢;omega
 simp only[mixRF];rw[this];rfl
theorem mixRF.box{l:List Oper}(h:RInv l.toArray (mixRF base slots vals rows boxes) w0 a0 listed a u D)(hall:∀i,i<l.length→listed.getD i false=true){b:BoxD}(j:Nat)(hj:j<l.length)(h1:BoxD.made boxes j=none)(h2:BoxD.done boxes j=some b){s:Nat}(hsl:slots.getD j 0=s):∃g,a.tmps.getD s undef=.pointer (some ⟨g,0,none⟩)∧Blk u g b.t b.ws:=by
 have h3:=h.fact j ⟨hall j hj,fun k hk=>by simp only[mixRF]at hk;rw[h1]at hk;cases hk⟩;simp only[mixRF]at h3;rw[h1,h2]at h3;obtain⟨g,e1,hb,_⟩:=h3;rw[hsl]at e1;exact⟨g,e1,hb⟩
theorem mixRF.at_end{l:List Oper}(h:RInv l.toArray (mixRF base slots vals rows boxes) w0 a0 listed a u D)(hall:∀i,i<l.length→listed.getD i false=true)(j:Nat)(hj:j<l.length)(hp:e_F rows boxes j=true){s:Nat}{v:Value}(hs:slots.getD j 0=s)(hv:vals.getD j undef=v):a.tmps.getD s undef=v:=by
 obtain⟨h1,h2,h3⟩:=g_y hp;have h4:=h.fact j ⟨hall j hj,fun k hk=>by simp only[mixRF]at hk;rw[h1]at hk;cases hk⟩;simp only[mixRF]at h4;rw[h1,h2,h3]at h4;rw[← hs,←hv];exact h4.1
theorem mixRF.pureG(s:Nat)(hd:o.dst=some s)(hsl:slots.getD i 0=s)(hin:s<a0.tmps.size)(hp:e_F rows boxes i=true)(v:Value)(hv:vals.getD i undef=v)
 (h:∀listed a u D,RInv ops (mixRF base slots vals rows boxes) w0 a0 listed a u D→(∀ e∈o.after,Region.binds .any e=true→listed.getD e.on false=true)→listed.getD i false=false→Region.wanted o (yielded ops a.tmps)=true∧(execOp a.eval o).run P u=.ok (.value v) u):RStep P ops Q (mixRF base slots vals rows boxes) w0 a0 i o:=
 RStep.pureW s hd hsl hin fun listed a u D hI hr hn=>⟨(h listed a u D hI hr hn).1,v,(h listed a u D hI hr hn).2,f_F hp hv⟩
theorem mixRF.callVG(s:Nat)(hd:o.dst=some s)(hsl:slots.getD i 0=s)(hin:s<a0.tmps.size)(hp:e_F rows boxes i=true)(v:Value)(hv:vals.getD i undef=v)
 (h:∀listed a u D,RInv ops (mixRF base slots vals rows boxes) w0 a0 listed a u D→(∀ e∈o.after,Region.binds .any e=true→listed.getD e.on false=true)→listed.getD i false=false→Region.wanted o (yielded ops a.tmps)=true∧∃f args,(execOp a.eval o).run P u=.ok (.enter f args) u∧Calls P f args u fun en u'=>en=.returned v∧Below u.heap.size u u'):RStep P ops Q (mixRF base slots vals rows boxes) w0 a0 i o:=
 RStep.callW s hd hsl hin fun listed a u D hI hr hn=>by
  obtain⟨hw,f,args,e1,hc⟩:=h listed a u D hI hr hn;refine⟨hw,f,args,e1,hc.mono ?_⟩;rintro en u' ⟨rfl,hb⟩;exact⟨v,fun _=>False,rfl,hI.old.trans (hb.mono hI.old.size),hb.size,fun b hlt _=>hb.block b hlt,fun b hd=>hd.elim,f_F hp hv⟩
theorem mixRF.callRowG(s:Nat)(hd:o.dst=some s)(hsl:slots.getD i 0=s)(hin:s<a0.tmps.size)(h1:BoxD.made boxes i=none)(h2:BoxD.done boxes i=none){x:RowD}(hx:RowD.of rows i=some x)(hb:base≤w0.heap.size)
 (h:∀listed a u D,RInv ops (mixRF base slots vals rows boxes) w0 a0 listed a u D→(∀ e∈o.after,Region.binds .any e=true→listed.getD e.on false=true)→listed.getD i false=false→Region.wanted o (yielded ops a.tmps)=true∧∃f args,(execOp a.eval o).run P u=.ok (.enter f args) u∧Calls P f args u fun en u'=>∃v,en=.returned v∧Below u.heap.size u u'∧OwnK u' u.heap.size x.e x.k v x.n x.vs):RStep P ops Q (mixRF base slots vals rows boxes) w0 a0 i o:=
 RStep.callW s hd hsl hin fun listed a u D hI hr hn=>by
  obtain⟨hw,f,args,e1,hc⟩:=h listed a u D hI hr hn;refine⟨hw,f,args,e1,hc.mono ?_⟩;rintro en u' ⟨v,rfl,hbl,ho⟩;exact⟨v,fun b=>v.ownBlock=some b,rfl,hI.old.trans (hbl.mono hI.old.size),hbl.size,fun b hlt _=>hbl.block b hlt,fun b hq=>.inr (k_6 ho hq),p_X h1 h2 hx hb hI.old.size ho⟩
end
end Mem
end Go.Proofs.YtkpnmpjnpcjohaaGreat
