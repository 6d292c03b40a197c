import Derived.Test.YtkpnmpjnpcjohaaGreatJoined17
import Derived.ArgAppend
import Derived.Deep.LoopGhost
import Derived.Test.YtkpnmpjnpcjohaaGreatJoined13
import Derived.Test.YtkpnmpjnpcjohaaGreatPlanRights
set_option linter.unusedSimpArgs false
set_option linter.unusedVariables false
namespace Go.Proofs.YtkpnmpjnpcjohaaGreat
open ChangeShapes WideShapes ChangeAt RowKit Mem
namespace Slack
open FleetMath Rec
theorem o_P(a:Int)(b:Bool):∀v∈[Value.int .i64 a,.bool b],v.oneCell'=true:=by
 intro v hv;simp only[List.mem_cons,List.not_mem_nil,or_false]at hv;rcases hv with rfl|rfl<;>rfl
theorem _root_.Go.Proofs.YtkpnmpjnpcjohaaGreat.Mem.Recs.part{w:World}{B n k l h c:Nat}{A:Option Addr}{vs:List Value}(hr:Recs w B A n k vs)(h1:l≤h)(h2:h≤n)(h3:n≤c):
 Recs w B (if c=l then A else A.map (·.add (l*k))) (h-l) k ((vs.drop (l*k)).take ((h-l)*k)):=by
 have hl:=hr.1;have e1:(h-l)*k+l*k=h*k:=by rw[← Nat.add_mul];congr 1;omega
 have e2:h*k≤n*k:=Nat.mul_le_mul_right _ h2;refine⟨by rw[List.length_take,List.length_drop];omega,by have:=hr.2.1;omega,fun hp=>?_⟩;obtain⟨b,off,rfl,hb,hc⟩:=hr.2.2 (by omega);rw[if_neg (by omega)];refine⟨b,off+l*k,by rw[Option.map_some,b_n],hb,fun j u hu=>?_⟩;rw[List.getElem?_take]at hu;split at hu
 ·rw[List.getElem?_drop]at hu
  rw[Nat.add_assoc];exact hc _ u hu
 ·cases hu
theorem m_M(l:List Stp)(i:Nat):(a_D l).drop (i*2)=a_D (l.drop i):=by
 induction l generalizing i with
 |nil=>simp[a_D]
 |cons x r ih=>
  cases i with
  |zero=>simp
  |succ i=>
   rw[show(i+1)*2=i*2+2 by omega,List.drop_succ_cons,←ih];rfl
theorem m_N(l:List Stp)(i:Nat):(a_D l).take (i*2)=a_D (l.take i):=by
 induction l generalizing i with
 |nil=>simp[a_D]
 |cons x r ih=>
  cases i with
  |zero=>simp[a_D]
  |succ i=>
   rw[show(i+1)*2=i*2+2 by omega,List.take_succ_cons];have e:a_D (x::r)=.int .i64 x.ord::.bool x.drop::a_D r:=rfl;have e':a_D (x::r.take i)=.int .i64 x.ord::.bool x.drop::a_D (r.take i):=rfl;rw[e,e',←ih];rfl
theorem Stps.part{w:World}{B n l h c:Nat}{A:Option Addr}{xs:List Stp}(hr:Stps w B A n xs)(h1:l≤h)(h2:h≤n)(h3:n≤c):
 Stps w B (if c=l then A else A.map (·.add (l*2))) (h-l) ((xs.drop l).take (h-l)):=by
 have:=Recs.part hr h1 h2 h3;rwa[m_M,m_N]at this
abbrev partAt(A:Option Addr)(l c:Nat):Option Addr:=if c=l then A else A.map (·.add (l*2))
theorem h_3{A:Option Addr}{n c l h:Nat}{lo hi:Option Value}(u:World)(hlo:(lo=none∧l=0)∨lo=some (.int .i64 (l:Int)))(hhi:(hi=none∧h=n)∨hi=some (.int .i64 (h:Int)))(h1:l≤h)(h2:h≤n)(h3:n≤c):
 (Instr.sliceAt 35 (.slice A n c) lo hi none).run Tryz.prog u=.ok (.slice (partAt A l c) (h-l) (c-l)) u:=by
 have hsz:(sizeOf 48).run Tryz.prog u=.ok 2 u:=by
  obtain⟨i,hi,_,hz,_⟩:=info_parts e_4;simp[sizeOf,typeInfo,hi,hz]
 have q:h≤c:=Nat.le_trans h2 h3
 rcases hlo with⟨rfl,rfl⟩|rfl<;>rcases hhi with⟨rfl,rfl⟩|rfl<;>
  simp[Instr.sliceAt,Instr.slice,Instr.sliceBounds,Instr.sliceBound,run_underlying Tryz.underlying35,asIntOf,hsz,partAt,h1,q]
theorem d_L{o:Oper}{a:Act}{u:World}{x:Operand}{lo hi:Option Operand}{A:Option Addr}{n c l h:Nat}(ho:o.op=.slice 35 x lo hi none)(hx:a.eval x=.slice A n c)
 (hlo:(lo=none∧l=0)∨∃y,lo=some y∧a.eval y=.int .i64 (l:Int)) (hhi:(hi=none∧h=n)∨∃y,hi=some y∧a.eval y=.int .i64 (h:Int)) (h1:l≤h) (h2:h≤n) (h3:n≤c):
 (execOp a.eval o).run Tryz.prog u=.ok (.value (.slice (partAt A l c) (h-l) (c-l))) u:=by
 have hr:=h_3 (A:=A) (n:=n) (c:=c) (l:=l) (h:=h) (lo:=lo.map a.eval) (hi:=hi.map a.eval) u (by
  rcases hlo with⟨rfl,e⟩|⟨y,rfl,e⟩
  ·exact .inl ⟨rfl,e⟩
  ·exact .inr (by rw[Option.map_some,e])) (by
  rcases hhi with⟨rfl,e⟩|⟨y,rfl,e⟩
  ·exact .inl ⟨rfl,e⟩
  ·exact .inr (by rw[Option.map_some,e])) h1 h2 h3
 unfold execOp;rw[ho];simp only[hx,Option.map_none,Sem.run_bind,hr,Result.andThen_ok,Sem.run_pure]
end Slack
namespace Geo
open MemI GeoMath
def o_Q(n:Nat)(l:List Int)(v:Nat):Prop:=∀a,a<n→∀c,c<n→T n l a c≤T n l a v+T n l v c
instance(n:Nat)(l:List Int)(v:Nat):Decidable (o_Q n l v):=by unfold o_Q;infer_instance
def Drawn(w wr:World):Prop:=∃d,wr=w.drewN d
theorem Drawn.refl(w:World):Drawn w w:=⟨0,rfl⟩
theorem Drawn.drew{w wr:World}(h:Drawn w wr):Drawn w wr.drew:=by obtain⟨d',rfl⟩:=h;exact⟨d'+1,rfl⟩
theorem Drawn.cell{w wr:World}(h:Drawn w wr)(p:Addr):wr.cell? p=w.cell? p:=by obtain⟨d',rfl⟩:=h;rfl
theorem Drawn.reads{w wr:World}(h:Drawn w wr){A:Option Addr}{n:Nat}{vs:List Value}(hr:Reads w w.heap.size A n vs):Reads wr wr.heap.size A n vs:=by
 obtain⟨d',rfl⟩:=h;exact hr
def l_G(t:TypeId)(w:World)(n:Nat)(l:List Int)(e:Ending)(w':World):Prop:=
 Below w.heap.size w w'∧∃b l',e=.returned (.pointer (some ⟨b,0,none⟩))∧MapAt w' t w.heap.size b n l'∧Least n l l'
def Clos(w:World)(t:TypeId)(b n:Nat)(l cur:List Int)(wr:World):Prop:=Below w.heap.size w wr∧MapAt wr t w.heap.size b n cur∧OnWay n l cur
theorem Clos.drewN{w wr:World}{t:TypeId}{b n:Nat}{l cur:List Int}(h:Clos w t b n l cur wr)(d:Nat):Clos w t b n l cur (wr.drewN d):=⟨a_l h.1 d,h.2.1.drewN d,h.2.2⟩
end Geo
namespace Cert
open GeoMath FleetMath PlanMath CertMath Rec Geo Span Deal Route Plan
namespace OneR
theorem below_drew{w u':World}(hb:Below w.drew.heap.size w.drew u'):Below w.heap.size w u':=(Below.refl w.heap.size w).drew.trans hb
section
variable {o : Oper} {a : Act} {u : World} {x y : Operand}
theorem h_4{b c r:Bool}(h:o.op=.pick x y (.const (.bool false)))(hp:a.eval x=.bool b)(hy:a.eval y=.bool c)(hr:(b && c)=r):(execOp a.eval o).run Tryz.prog u=.ok (.value (.bool r)) u:=by
 have hc:a.eval (.const (.bool false))=.bool false:=rfl;obtain⟨ρ,hρ⟩:∃ρ,a.eval=ρ:=⟨_,rfl⟩;rw[hρ]at hp hy hc ⊢;unfold execOp;rw[h,←hr];cases b<;>simp[go_sem,hp,hy,hc]
theorem f_X(h:o.op=.pick x y (.const (.bool false)))(hp:a.eval x=.bool false):(execOp a.eval o).run Tryz.prog u=.ok (.value (.bool false)) u:=by
 have hc:a.eval (.const (.bool false))=.bool false:=rfl;obtain⟨ρ,hρ⟩:∃ρ,a.eval=ρ:=⟨_,rfl⟩;rw[hρ]at hp hc ⊢;unfold execOp;rw[h];simp[go_sem,hp,hc]
end
end OneR
end Cert
end Go.Proofs.YtkpnmpjnpcjohaaGreat
