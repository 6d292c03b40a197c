import Derived.Test.YtkpnmpjnpcjohaaGreatInsertMaths
import Derived.Test.YtkpnmpjnpcjohaaGreatCertSmalls
import Derived.Test.YtkpnmpjnpcjohaaGreatSlackPs
set_option linter.unusedSimpArgs false
set_option linter.unusedVariables false
namespace Go.Proofs.YtkpnmpjnpcjohaaGreat
open ChangeShapes WideShapes ChangeAt RowKit Mem GeoMath FleetMath PlanMath CertMath InsertMath Rec Geo Span Deal
namespace Insert
def Near(m:Option Mp):Prop:=∀mm,m=some mm→∀a b,0≤time mm a b∧time mm a b≤1000000
theorem near{w:World}{t:TypeId}{base:Nat}{pv:Value}{m:Option Mp}(h:MapP w t base pv m):Near m:=by
 intro mm hm a b;rcases h with⟨_,h⟩|⟨_,n,l,_,h2,_,_,_,h6⟩
 ·rw[h]at hm;cases hm
 ·rw[h2]at hm
  injection hm with hm;rw[← hm];exact b_1 h6 a b
theorem k_v{m:Option Mp}{d:Drv}{os:List FleetMath.Ord}{stops:List Stp}{c:Int}(h:Near m)(hl:stops.length≤100)(hc:cost m d os stops=some c):0≤c∧c≤100000000:=by
 unfold cost at hc;cases m with
 |none=>cases hc
 |some mm=>
  simp only at hc;split at hc
  ·injection hc with hc
   have h1:=k_L (os:=os) (h mm rfl) d.home stops;rw[hc]at h1;omega
  ·cases hc
theorem i_O{m:Option Mp}{d:Drv}{os:List FleetMath.Ord}{stops:List Stp}(h:Near m)(hl:stops.length≤100):0≤oldC m d os stops∧oldC m d os stops≤100000000:=by
 unfold oldC;cases hc:cost m d os stops with
 |none=>simp
 |some c=>exact k_v h hl hc
theorem o_K(m:Option Mp)(d:Drv)(os:List FleetMath.Ord)(stops:List Stp):∃ov ok,optV (cost m d os stops)=.tuple #[.int .i64 ov,.bool ok]∧oldC m d os stops=ov:=by
 unfold oldC;cases cost m d os stops with
 |none=>exact⟨0,false,rfl,rfl⟩
 |some c=>exact⟨c,true,rfl,rfl⟩
theorem q_3(r:Option Int):∃v ok,optV r=.tuple #[.int .i64 v,.bool ok]∧(ok=true→r=some v)∧(ok=false→r=none):=by
 cases r with
 |none=>exact⟨0,false,rfl,fun h=>(by cases h),fun _=>rfl⟩
 |some c=>exact⟨c,true,rfl,fun _=>rfl,fun h=>(by cases h)⟩
end Insert
namespace Insert
open Route Plan Cert Slack
theorem i_P{u:World}{g:Nat}{d:Drv}(h:DBox u g d):(Instr.loadAt 33 (.pointer (some ⟨g,0,none⟩))).run Tryz.prog u=.ok (drvV d) u:=by
 obtain⟨h0,h1,h2,h3,h4,h5⟩:=h.cells;simp[go_sem,h0,h1,h2,h3,h4,h5]
theorem ins_call4{P:Program}{o:Oper}{a:Act}{u:World}{f:Nat}{ts:Array TypeId}{x1 x2 x3 x4:Operand}{v1 v2 v3 v4:Value}(h:o.op=.call {callee:=.value (.func f),args:=#[x1,x2,x3,x4],argTypes:=ts })(h1:a.eval x1=v1)(h2:a.eval x2=v2)(h3:a.eval x3=v3)(h4:a.eval x4=v4)
 (hf:(callFunc f #[v1,v2,v3,v4]).run P u=.ok (.enter f #[v1,v2,v3,v4]) u):(execOp a.eval o).run P u=.ok (.enter f #[v1,v2,v3,v4]) u:=by
 have hf':a.eval (.func f)=.func (.func f) #[] #[]:=rfl;obtain⟨ρ,hρ⟩:∃ρ,a.eval=ρ:=⟨_,rfl⟩;rw[hρ]at h1 h2 h3 h4 hf' ⊢;unfold execOp;rw[h];simp[go_sem,hf',h1,h2,h3,h4,hf]
end Insert
namespace Insert
open Route Plan Cert
abbrev sp4V(x:Sp4):Value:=.agg #[.int .i64 x.drv,.int .i64 x.pick,.int .i64 x.drop,.int .i64 x.cost]
abbrev c_g(t:Sp4×Int×Int):Value:=.tuple #[sp4V t.1,.int .i64 t.2.1,.int .i64 t.2.2]
def S4Box(u:World)(g:Nat)(x:Sp4):Prop:=Blk u g 150 [.int .i64 x.drv,.int .i64 x.pick,.int .i64 x.drop,.int .i64 x.cost]
theorem S4Box.cells{u:World}{g:Nat}{x:Sp4}(h:S4Box u g x):u.cell? ⟨g,0,none⟩=some (.int .i64 x.drv)∧u.cell? ⟨g,1,none⟩=some (.int .i64 x.pick)∧u.cell? ⟨g,2,none⟩=some (.int .i64 x.drop)∧u.cell? ⟨g,3,none⟩=some (.int .i64 x.cost):=⟨Blk.cell h rfl,Blk.cell h rfl,Blk.cell h rfl,Blk.cell h rfl⟩
abbrev c_v(u:World)(g:Nat)(x:Sp4):World:=((((u.setCell ⟨g,0,none⟩ (.int .i64 x.drv)).setCell ⟨g,1,none⟩ (.int .i64 x.pick)).setCell ⟨g,2,none⟩ (.int .i64 x.drop)).setCell ⟨g,3,none⟩ (.int .i64 x.cost))
theorem a_I{u:World}{g:Nat}{y:Sp4}(h:S4Box u g y)(x:Sp4):S4Box (c_v u g x) g x:=by
 unfold S4Box at h ⊢;exact((((h.put 0 _).put 1 _).put 2 _).put 3 _)
theorem b_Y{B:Nat}{w u:World}{g:Nat}(h:Below B w u)(hg:B≤g)(x:Sp4):Below B w (c_v u g x):=((((h.setCell hg _).setCell hg _).setCell hg _).setCell hg _)
def s_a(m:Option Mp)(d:Drv)(os:List FleetMath.Ord)(r:Rte)(o:FleetMath.Ord)(b:Int):Prop:=
 drvE m d≠0∨ordE m o≠0∨a_V m os=false∨(find os o.id).isSome=true∨r.drv≠d.id∨r.served<0∨(r.stops.length:Int)<r.served∨b<0∨100000<b
theorem bestBad_iff{m:Option Mp}{d:Drv}{os:List FleetMath.Ord}{r:Rte}{o:FleetMath.Ord}{b:Int}:b_M m d os r o b↔s_a m d os r o b∨(a_J m d os r.stops).2.2≠0:=by
 unfold b_M s_a;simp only[or_assoc]
theorem d_s{m:Option Mp}{d:Drv}{os:List FleetMath.Ord}{r:Rte}{o:FleetMath.Ord}{b:Int}(h:b_M m d os r o b):g_L m d os r o b=(sp0,0,1):=if_pos h
end Insert
namespace Insert
open AuditMath Route Plan Cert
theorem k_w{p:List Rte}(h:a_h p=true){r:Rte}(hr:r∈p):r.stops.length≤80∧∃sv:Nat,r.served=(sv:Int)∧sv≤r.stops.length:=by
 unfold a_h at h;simp only[Bool.and_eq_true,List.all_eq_true]at h;have:=h.1.1.2 r hr;unfold e_y at this;rw[decide_eq_true_eq]at this;exact⟨this.2.2.1,r.served.toNat,by omega,by omega⟩
theorem m_K{bn:Nat}{s:Srch}{G:Rte→List (Option Sp4)}{p:List Rte}{k:Nat}{r:Rte}{R:Srch}(h:R=goOn bn s ((p.drop k).flatMap G))(hp:p.drop k=r::p.drop (k+1)):R=goOn bn (goOn bn s (G r)) ((p.drop (k+1)).flatMap G):=by
 rw[h,hp,List.flatMap_cons,d_7]
structure CS(w:World)(o:FleetMath.Ord)(u:World):Prop where
 old:Below w.heap.size w u
 ord:OBox u w.heap.size o
 res:S4Box u (w.heap.size+1) sp0
section
variable {w u u' : World} {o : FleetMath.Ord} {s t : Srch} {g : Nat}
theorem CS.next(h:CS w o u)(hb:Below u.heap.size u u'):CS w o u':=⟨h.old.trans (hb.mono h.old.size),h.ord.below hb,Blk.below h.res hb (Blk.lt h.res)⟩
theorem CS.size(h:CS w o u):w.heap.size+2≤u.heap.size:=Blk.lt h.res
theorem CS.start:CS w o ((w.alloc (.cells #[.int .i64 o.id,.int .i64 o.size,.int .i64 o.pick.place,.int .i64 o.pick.win.fr,.int .i64 o.pick.win.to,.int .i64 o.pick.serv,.int .i64 o.drop.place,.int .i64 o.drop.win.fr,.int .i64 o.drop.win.to,.int .i64 o.drop.serv] 31)).alloc (.cells #[.int .i64 0,.int .i64 0,.int .i64 0,.int .i64 0] 150)):=by
 have b0:∀(u:World) (ob:Obj),Below u.heap.size u (u.alloc ob):=fun u ob=>(Below.refl _ _).alloc (Nat.le_refl _) _;have f0:OBox (w.alloc (.cells #[.int .i64 o.id,.int .i64 o.size,.int .i64 o.pick.place,.int .i64 o.pick.win.fr,.int .i64 o.pick.win.to,.int .i64 o.pick.serv,.int .i64 o.drop.place,.int .i64 o.drop.win.fr,.int .i64 o.drop.win.to,.int .i64 o.drop.serv] 31)) w.heap.size o:=Blk.new w _ _;obtain⟨w1,h1⟩:∃u,w.alloc (.cells #[.int .i64 o.id,.int .i64 o.size,.int .i64 o.pick.place,.int .i64 o.pick.win.fr,.int .i64 o.pick.win.to,.int .i64 o.pick.serv,.int .i64 o.drop.place,.int .i64 o.drop.win.fr,.int .i64 o.drop.win.to,.int .i64 o.drop.serv] 31)=u:=⟨_,rfl⟩;have z1:w1.heap.size=w.heap.size+1:=by rw[← h1];simp
 have o1:Below w.heap.size w w1:=by rw[← h1];exact b0 _ _
 rw[h1]at f0 ⊢;have f3:S4Box (w1.alloc (.cells #[.int .i64 0,.int .i64 0,.int .i64 0,.int .i64 0] 150)) w1.heap.size sp0:=Blk.new w1 _ _;rw[z1]at f3;exact⟨o1.trans ((b0 _ _).mono (by omega)),f0.below (b0 _ _),f3⟩
theorem CS.put(h:CS w o u)(y:Sp4):Below w.heap.size w (c_v u (w.heap.size+1) y):=b_Y h.old (by omega) y
end
theorem k_x{u:World}{b i:Nat}{x:RM}(h:u.cell? ⟨b,i,none⟩=some (.int .i64 x.rt.drv)∧u.cell? ⟨b,i+1,none⟩=some (.int .i64 x.rt.served)∧u.cell? ⟨b,i+2,none⟩=some (.slice x.a x.n x.c)):(Instr.loadAt 37 (.pointer (some ⟨b,i,none⟩))).run Tryz.prog u=.ok (rteV x) u:=by
 obtain⟨h0,h1,h2⟩:=h;simp[go_sem,h0,h1,h2]
end Insert
namespace Insert
open Keep Route Plan Cert
theorem o_L{o:Oper}{a:Act}{u:World}(h:o.op=.alloc 150):(execOp a.eval o).run Tryz.prog u=.ok (.value (.pointer (some ⟨u.heap.size,0,none⟩))) (u.alloc (.cells #[.int .i64 0,.int .i64 0,.int .i64 0,.int .i64 0] 150)):=by
 unfold execOp;rw[h];simp[go_sem]
theorem i_Q{u:World}{g:Nat}{a0 a1 a2 a3:Value}(h:Blk u g 150 [a0,a1,a2,a3])(y:Sp4):(Instr.storeAt 150 (.pointer (some ⟨g,0,none⟩)) (sp4V y)).run Tryz.prog u=.ok () (c_v u g y):=by
 have c0:=h.cell (i:=0) rfl;have c1:=h.cell (i:=1) rfl;have c2:=h.cell (i:=2) rfl;have c3:=h.cell (i:=3) rfl;have hff:=h.free;have hcs:=a_c g;have hfs:=a_d;simp[go_sem,c0,c1,c2,c3,hff,hcs,hfs]
theorem q_4{u:World}{g:Nat}{a0 a1 a2 a3:Value}(h:Blk u g 150 [a0,a1,a2,a3])(y:Sp4):Blk (c_v u g y) g 150 [.int .i64 y.drv,.int .i64 y.pick,.int .i64 y.drop,.int .i64 y.cost]:=((((h.put 0 _).put 1 _).put 2 _).put 3 _)
theorem o_M{P:Program}{o:Oper}{a:Act}{u:World}{f:Nat}{ts:Array TypeId}{x1 x2 x3 x4 x5 x6:Operand}{v1 v2 v3 v4 v5 v6:Value}(h:o.op=.call {callee:=.value (.func f),args:=#[x1,x2,x3,x4,x5,x6],argTypes:=ts })(h1:a.eval x1=v1)(h2:a.eval x2=v2)(h3:a.eval x3=v3)(h4:a.eval x4=v4)(h5:a.eval x5=v5)(h6:a.eval x6=v6)
 (hf:(callFunc f #[v1,v2,v3,v4,v5,v6]).run P u=.ok (.enter f #[v1,v2,v3,v4,v5,v6]) u):(execOp a.eval o).run P u=.ok (.enter f #[v1,v2,v3,v4,v5,v6]) u:=by
 have hf':a.eval (.func f)=.func (.func f) #[] #[]:=rfl;obtain⟨ρ,hρ⟩:∃ρ,a.eval=ρ:=⟨_,rfl⟩;rw[hρ]at h1 h2 h3 h4 h5 h6 hf' ⊢;unfold execOp;rw[h];simp[go_sem,hf',h1,h2,h3,h4,h5,h6,hf]
end Insert
end Go.Proofs.YtkpnmpjnpcjohaaGreat
