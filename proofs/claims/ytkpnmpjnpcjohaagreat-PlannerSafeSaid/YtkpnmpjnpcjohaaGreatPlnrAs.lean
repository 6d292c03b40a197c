import Derived.Test.YtkpnmpjnpcjohaaGreatPlannerMaths
import Derived.Test.YtkpnmpjnpcjohaaGreatPlanPWiths
import Derived.Test.YtkpnmpjnpcjohaaGreatPlnrLibs
set_option linter.unusedSimpArgs false
set_option linter.unusedVariables false
set_option maxHeartbeats 4000000
set_option maxRecDepth 100000
namespace Go.Proofs.YtkpnmpjnpcjohaaGreat
open ChangeShapes WideShapes ChangeAt RowKit Mem FleetMath PlanMath Rec Geo Deal Keep Plan
namespace Pln
open GeoMath CertMath AuditMath InsertMath RepairMath PlannerMath Span
structure Bv where
 ds:Sl
 os:Sl
 pl:Sl
abbrev sl0:Sl:=⟨none,0,0,Nat.le_refl _⟩
abbrev bv0:Bv:=⟨sl0,sl0,sl0⟩
abbrev bkV(x:Bv):Value:=.agg #[x.ds.v,x.os.v,x.pl.v]
def BBox(u:World)(g:Nat)(t:TypeId)(x:Bv):Prop:=Blk u g t [x.ds.v,x.os.v,x.pl.v]
section
variable {u u' : World} {g : Nat} {t : TypeId} {x : Bv}
theorem BBox.new(u:World)(t:TypeId)(x:Bv):BBox (u.alloc (.cells #[x.ds.v,x.os.v,x.pl.v] t)) u.heap.size t x:=Blk.new u _ _
theorem BBox.below(h:BBox u g t x)(hb:Below u.heap.size u u'):BBox u' g t x:=Blk.below h hb (Blk.lt h)
theorem BBox.cells(h:BBox u g t x):u.cell? ⟨g,0,none⟩=some x.ds.v∧u.cell? ⟨g,1,none⟩=some x.os.v∧u.cell? ⟨g,2,none⟩=some x.pl.v:=⟨Blk.cell h rfl,Blk.cell h rfl,Blk.cell h rfl⟩
end
structure BkR(w:World)(B:Nat)(x:Bv)(b:Bk)(ps:List RM):Prop where
 ds:Drvs w B x.ds.a x.ds.n b.ds
 os:Ords w B x.os.a x.os.n b.os
 pl:Plns w B x.pl.a x.pl.n ps
 rt:ps.map (·.rt)=b.pl
section
variable {w w' w0 : World} {B B' : Nat} {x : Bv} {b : Bk} {ps : List RM}
theorem BkR.keep(h:BkR w B x b ps)(hb:Below B w w'):BkR w' B x b ps:=⟨Recs.keep h.ds hb,Recs.keep h.os hb,h.pl.keep hb,h.rt⟩
theorem BkR.more(h:BkR w B x b ps)(hB:B≤B'):BkR w B' x b ps:=⟨Recs.more h.ds hB,Recs.more h.os hB,h.pl.more hB,h.rt⟩
theorem BkR.next(h:BkR w w.heap.size x b ps)(hb:Below w.heap.size w w'):BkR w' w'.heap.size x b ps:=(h.keep hb).more hb.size
theorem BkR.zero(w:World)(B:Nat):BkR w B bv0 bk0 []:=⟨Recs.none_,Recs.none_,⟨Recs.none_,fun r h=>by cases h⟩,rfl⟩
theorem BkR.dn(h:BkR w B x b ps):b.ds.length=x.ds.n:=h.ds.length
theorem BkR.on(h:BkR w B x b ps):b.os.length=x.os.n:=h.os.length
theorem BkR.pn(h:BkR w B x b ps):b.pl.length=x.pl.n:=by rw[← h.rt,List.length_map];exact h.pl.length
theorem a_9{m:Option Mp}(hr:a_q m b=true):b.ds.length≤8∧b.os.length≤40∧b.pl.length=b.ds.length∧a_h b.pl=true∧a_V m b.os=true:=by
 obtain⟨h1,_,_,h4,_,_⟩:=a_w hr;obtain⟨_,h2,h3,h5,_,_⟩:=well_split.1 h1;exact⟨h2,(known_iff.1 h3).1,h4,h5,h3⟩
structure BkN(w0 w:World)(x:Bv)(b:Bk)(ps:List RM):Prop where
 ds:OwnK w w0.heap.size 33 6 x.ds.v b.ds.length (a_0 b.ds)
 os:OwnK w w0.heap.size 31 10 x.os.v b.os.length (a_g b.os)
 pl:NewP w0 w x.pl.v ps
 rt:ps.map (·.rt)=b.pl
 fits:∀r∈ps,r.n*16≤140737488351232
 two:Two x.ds.v x.os.v∧Two x.ds.v x.pl.v∧Two x.os.v x.pl.v∧∀r∈ps,Two x.ds.v r.v∧Two x.os.v r.v
theorem BkN.old(h:BkN w0 w x b ps):Below w0.heap.size w0 w:=h.pl.old
theorem BkN.keep(h:BkN w0 w x b ps)(hb:Below w.heap.size w w'):BkN w0 w' x b ps:=
 ⟨h.ds.keep hb (Nat.le_refl _),h.os.keep hb (Nat.le_refl _),h.pl.keep hb,h.rt,h.fits,h.two⟩
theorem b_O{w:World}{base k n m:Nat}{e:TypeId}{s:Sl}{vs:List Value}(h:OwnK w base e k s.v m vs):s.n=m∧Recs w w.heap.size s.a s.n k vs:=by
 obtain⟨A,c,e1,_,hr⟩:=h.read;injection e1 with e1 e2 e3;rw[e1,e2];exact⟨rfl,hr⟩
theorem BkN.read(h:BkN w0 w x b ps):BkR w w.heap.size x b ps:=by
 obtain⟨A,c,e,_,hp⟩:=h.pl.plns h.fits;injection e with e1 e2 _;refine⟨(b_O (n:=0) h.ds).2,(b_O (n:=0) h.os).2,?_,h.rt⟩;rw[e1,e2];exact hp
theorem NewP.lower'{v:Value}{w1:World}{l:List RM}(h:NewP w1 w v l)(hb:Below w0.heap.size w0 w1):NewP w0 w v l:=
 ⟨hb.trans (h.old.mono hb.size),h.own.lower hb.size,fun r hr=>⟨(h.each r hr).1.lower hb.size,(h.each r hr).2⟩⟩
theorem BkN.lower{w1:World}(h:BkN w1 w x b ps)(hb:Below w0.heap.size w0 w1):BkN w0 w x b ps:=
 ⟨h.ds.lower hb.size,h.os.lower hb.size,NewP.lower' h.pl hb,h.rt,h.fits,h.two⟩
end
def BkOk(w:World)(r:Bk×Int)(e:Ending)(w':World):Prop:=∃y ps,e=.returned (.tuple #[bkV y,.int .i64 r.2])∧BkN w w' y r.1 ps
theorem a_A{w w':World}{r:Bk×Int}{c:Int}(h:(bk0,c)=r)(hb:Below w.heap.size w w'):BkOk w r (.returned (.tuple #[.agg #[.slice none 0 0,.slice none 0 0,.slice none 0 0],.int .i64 c])) w':=by
 subst h;exact⟨bv0,[],rfl,⟨OwnK.nil _ _ _ _,OwnK.nil _ _ _ _,⟨hb,OwnK.nil _ _ _ _,fun r h=>(by cases h)⟩,rfl,fun r h=>(by cases h),⟨Two.nil _,Two.nil _,Two.nil _,fun r h=>(by cases h)⟩⟩⟩
end Pln
namespace Pln
open Cert
theorem k_U(g:Nat):∀(u:World) (i j:Nat) (v:Value),i≠j→(u.setCell ⟨g,i,none⟩ v).cell? ⟨g,j,none⟩=u.cell? ⟨g,j,none⟩:=fun u i j v h=>World.cell?_setCell_other u _ _ v fun e=>h (by injection e)
theorem k_V:∀(u:World) (a b:Addr) (v:Value),(u.setCell a v).frozen? b=u.frozen? b:=fun u a b v=>by simp
theorem a_C{w u':World}(hb:Below w.drew.heap.size w.drew u'):Below w.heap.size w u':=(Below.refl w.heap.size w).drew.trans hb
section
variable {o : Oper} {a : Act} {u : World} {x y : Operand}
theorem p_v{P:Program}{f:Nat}{t:Tmp}{ts:Array TypeId}{v1 v2:Value}(h:o.op=.call {callee:=.value (.tmp t),args:=#[x,y],argTypes:=ts })(h0:a.eval (.tmp t)=.func (.func f) #[] #[])(h1:a.eval x=v1)(h2:a.eval y=v2)(hf:(callFunc f #[v1,v2]).run P u=.ok (.enter f #[v1,v2]) u):(execOp a.eval o).run P u=.ok (.enter f #[v1,v2]) u:=by
 obtain⟨ρ,hρ⟩:∃ρ,a.eval=ρ:=⟨_,rfl⟩;rw[hρ]at h0 h1 h2 ⊢;unfold execOp;rw[h];simp[go_sem,h0,h1,h2,hf]
theorem t_r{p q:Int}{T:TypeId}{r:Bool}(h:o.op=.binOp .lss 3 x y T)(hp:a.eval x=.int .i64 p)(hq:a.eval y=.int .i64 q)(hr:decide (p<q)=r):(execOp a.eval o).run Tryz.prog u=.ok (.value (.bool r)) u:=by
 obtain⟨ρ,hρ⟩:∃ρ,a.eval=ρ:=⟨_,rfl⟩;rw[hρ]at hp hq ⊢;unfold execOp;rw[h,←hr];simp[go_sem,hp,hq]
theorem t_s{p q r:Int}{T:TypeId}(h:o.op=.binOp .sub 3 x y T)(hx:a.eval x=.int .i64 p)(hy:a.eval y=.int .i64 q)(hr:p-q=r∧IntKind.i64.wrap r=r):(execOp a.eval o).run Tryz.prog u=.ok (.value (.int .i64 r)) u:=by
 obtain⟨ρ,hρ⟩:∃ρ,a.eval=ρ:=⟨_,rfl⟩;rw[hρ]at hx hy ⊢;unfold execOp;rw[h];simp[go_sem,hx,hy,hr.1,hr.2]
theorem t_t{p q r:Int}{T:TypeId}(h:o.op=.binOp .add 3 x y T)(hx:a.eval x=.int .i64 p)(hy:a.eval y=.int .i64 q)(hr:p+q=r∧IntKind.i64.wrap r=r):(execOp a.eval o).run Tryz.prog u=.ok (.value (.int .i64 r)) u:=by
 obtain⟨ρ,hρ⟩:∃ρ,a.eval=ρ:=⟨_,rfl⟩;rw[hρ]at hx hy ⊢;unfold execOp;rw[h];simp[go_sem,hx,hy,hr.1,hr.2]
theorem h_u{p:Addr}{A:Option Addr}{n c:Nat}(h:u.cell? p=some (.slice A n c)):(Instr.loadAt 34 (.pointer (some p))).run Tryz.prog u=.ok (.slice A n c) u:=by simp[go_sem,h]
theorem run_load_os{p:Addr}{A:Option Addr}{n c:Nat}(h:u.cell? p=some (.slice A n c)):(Instr.loadAt 40 (.pointer (some p))).run Tryz.prog u=.ok (.slice A n c) u:=by simp[go_sem,h]
theorem d_O{p:Addr}{A:Option Addr}{n c:Nat}(h:u.cell? p=some (.slice A n c)):(Instr.loadAt 39 (.pointer (some p))).run Tryz.prog u=.ok (.slice A n c) u:=by simp[go_sem,h]
theorem g_i{g:Nat}{x:Bv}(h:BBox u g 42 x):(Instr.loadAt 42 (.pointer (some ⟨g,0,none⟩))).run Tryz.prog u=.ok (bkV x) u:=by
 obtain⟨h0,h1,h2⟩:=h.cells;simp[go_sem,h0,h1,h2]
def g_j(u:World)(g:Nat)(x:Bv):World:=((u.setCell ⟨g,0,none⟩ x.ds.v).setCell ⟨g,1,none⟩ x.os.v).setCell ⟨g,2,none⟩ x.pl.v
theorem c_G{g:Nat}{y:Bv}(h:BBox u g 42 y)(x:Bv):(Instr.storeAt 42 (.pointer (some ⟨g,0,none⟩)) (bkV x)).run Tryz.prog u=.ok () (g_j u g x):=by
 obtain⟨c0,c1,c2⟩:=h.cells;have hff:=Blk.free h;have hcs:=k_U g;have hfs:=k_V;simp[go_sem,c0,c1,c2,hff,hcs,hfs,g_j]
theorem c_z{g:Nat}{t:TypeId}{y:Bv}(h:BBox u g t y)(x:Bv):BBox (g_j u g x) g t x:=((h.put 0 _).put 1 _).put 2 _
theorem a_M(u:World)(g:Nat)(x:Bv):Only g u (g_j u g x):=(((Only.refl _ _).set _ _).set _ _).set _ _
theorem p_w{b off n c k:Nat}(h:o.op=.indexAddr 40 x y)(hx:a.eval x=.slice (some ⟨b,off,none⟩) n c)(hy:a.eval y=.int .i64 k)(hk:k<n)(hn:n≤9223372036854775807):
 (execOp a.eval o).run Tryz.prog u=.ok (.value (.pointer (some ⟨b,off+k*10,none⟩))) u:=by
 obtain⟨ρ,hρ⟩:∃ρ,a.eval=ρ:=⟨_,rfl⟩;rw[hρ]at hx hy ⊢;have hk1:(k:Int)<(n:Int):=by omega
 unfold execOp;rw[h];simp[go_sem,hx,hy,hk1]
theorem p_x{b off i n B:Nat}{z:FleetMath.Ord}{os:List FleetMath.Ord}(h:Ords u B (some ⟨b,off,none⟩) n os)(ho:os[i]?=some z):(Instr.loadAt 31 (.pointer (some ⟨b,off+i*10,none⟩))).run Tryz.prog u=.ok (ordV z) u:=by
 have hlt:i<n:=by rw[← Ords.length h];exact(List.getElem?_eq_some_iff.1 ho).1
 obtain⟨b',off',z',e,_,hz,_,g0,g1,g2,g3,g4,g5,g6,g7,g8,g9⟩:=Ords.at_ h hlt;injection e with e;injection e with e1 e2;subst e1;subst e2;rw[ho]at hz;injection hz with hz;subst hz;simp[go_sem,g0,g1,g2,g3,g4,g5,g6,g7,g8,g9]
theorem j_e{g:Nat}{z:FleetMath.Ord}(h:OBox u g z):(Instr.loadAt 31 (.pointer (some ⟨g,0,none⟩))).run Tryz.prog u=.ok (ordV z) u:=by
 obtain⟨g0,g1,g2,g3,g4,g5,g6,g7,g8,g9⟩:=h.cells;simp[go_sem,g0,g1,g2,g3,g4,g5,g6,g7,g8,g9]
theorem t_u{p:Operand}{z:FleetMath.Ord}(h:o.op=.buildSlice 40 1 #[(0,p)])(hp:a.eval p=ordV z):(execOp a.eval o).run Tryz.prog u=.ok (.value (.slice (some ⟨u.heap.size,0,none⟩) 1 1)) (u.alloc (.cells (a_g [z]).toArray 31)):=by
 obtain⟨ρ,hρ⟩:∃ρ,a.eval=ρ:=⟨_,rfl⟩;rw[hρ]at hp ⊢;unfold execOp;rw[h];simp[go_sem,hp,a_g]
end
end Pln
namespace Pln
open GeoMath CertMath AuditMath InsertMath RepairMath PlannerMath Span Cert
theorem g_k(A:Option Addr)(n c:Nat)(xs:List Drv)(w:World)(h:Drvs w w.heap.size A n xs)(hn:n≤64):
 Calls Tryz.prog 49 #[.slice A n c] w (c_X w 33 6 n (a_0 xs)):=by
 cases A with
 |none=>
  have hn0:n=0:=by
   rcases Nat.eq_zero_or_pos n with h0|h0
   ·exact h0
   ·obtain⟨_,_,e,_⟩:=h.2.2 h0
    cases e
  subst hn0;have hx:xs=[]:=List.eq_nil_of_length_eq_zero h.length;subst hx;have hnil:(binOp .eql 34 (.slice none 0 c) (.slice none 0 0)).run Tryz.prog w=.ok (.bool true) w:=Lib.run_eql_slice_nil w 34 33 none 0 c 0 0 Tryz.underlying34;clear h;go_enter Tryz.func49,Tryz.ntmps49;go_wp2_with fail
  go_ret;exact⟨_,rfl,Below.refl _ _,OwnK.nil _ _ _ _⟩
 |some ad=>
  have HA2:Hid (Recs (w.alloc (Obj.cells #[] 33)) w.heap.size (some ad) n 6 (a_0 xs)):=Recs.keep h ((Below.refl _ _).alloc (Nat.le_refl _) _);have HO:Hid (OwnK (w.alloc (Obj.cells #[] 33)) w.heap.size 33 6 (.slice (some ⟨w.heap.size,0,none⟩) 0 0) 0 []):=OwnK.new0 w _ _ _ (Nat.le_refl _);have HB:Below w.heap.size w (w.alloc (Obj.cells #[] 33)):=(Below.refl _ _).alloc (Nat.le_refl _) _;have hnil:(binOp .eql 34 (.slice (some ad) n c) (.slice none 0 0)).run Tryz.prog w=.ok (.bool false) w:=Lib.run_eql_slice_nil w 34 33 (some ad) n c 0 0 Tryz.underlying34;clear h;go_enter Tryz.func49,Tryz.ntmps49;go_wp2_with (at_builtin;refine a_T (o:=⟨some 7,_,_,_,_,_⟩) rfl (.tmp 5) (.tmp 6) Tryz.underlying34 e_3 rfl (by decide) rfl HO.out rfl HA2.out rfl (g_F xs) (by unfold maxLen;omega) (by omega) HB (by simp) (by simp) (Nat.le_refl _) ?_;intro v1 w1 HV HB1 HZ1;have HV2:=HV.out;rw[Nat.zero_add,List.nil_append]at HV2;clear HV;replace HV2:=Lib.hid HV2)
  go_ret;exact⟨v1,rfl,HB1.out,HV2.out⟩
theorem g_l(A:Option Addr)(n c:Nat)(xs:List FleetMath.Ord)(w:World)(h:Ords w w.heap.size A n xs)(hn:n≤64):
 Calls Tryz.prog 94 #[.slice A n c] w (c_X w 31 10 n (a_g xs)):=by
 cases A with
 |none=>
  have hn0:n=0:=by
   rcases Nat.eq_zero_or_pos n with h0|h0
   ·exact h0
   ·obtain⟨_,_,e,_⟩:=h.2.2 h0
    cases e
  subst hn0;have hx:xs=[]:=List.eq_nil_of_length_eq_zero h.length;subst hx;have hnil:(binOp .eql 40 (.slice none 0 c) (.slice none 0 0)).run Tryz.prog w=.ok (.bool true) w:=Lib.run_eql_slice_nil w 40 31 none 0 c 0 0 Tryz.underlying40;clear h;go_enter Tryz.func94,Tryz.ntmps94;go_wp2_with fail
  go_ret;exact⟨_,rfl,Below.refl _ _,OwnK.nil _ _ _ _⟩
 |some ad=>
  have HA2:Hid (Recs (w.alloc (Obj.cells #[] 31)) w.heap.size (some ad) n 10 (a_g xs)):=Recs.keep h ((Below.refl _ _).alloc (Nat.le_refl _) _);have HO:Hid (OwnK (w.alloc (Obj.cells #[] 31)) w.heap.size 31 10 (.slice (some ⟨w.heap.size,0,none⟩) 0 0) 0 []):=OwnK.new0 w _ _ _ (Nat.le_refl _);have HB:Below w.heap.size w (w.alloc (Obj.cells #[] 31)):=(Below.refl _ _).alloc (Nat.le_refl _) _;have hnil:(binOp .eql 40 (.slice (some ad) n c) (.slice none 0 0)).run Tryz.prog w=.ok (.bool false) w:=Lib.run_eql_slice_nil w 40 31 (some ad) n c 0 0 Tryz.underlying40;clear h;go_enter Tryz.func94,Tryz.ntmps94;go_wp2_with (at_builtin;refine a_T (o:=⟨some 7,_,_,_,_,_⟩) rfl (.tmp 5) (.tmp 6) Tryz.underlying40 b_R rfl (by decide) rfl HO.out rfl HA2.out rfl (c_f xs) (by unfold maxLen;omega) (by omega) HB (by simp) (by simp) (Nat.le_refl _) ?_;intro v1 w1 HV HB1 HZ1;have HV2:=HV.out;rw[Nat.zero_add,List.nil_append]at HV2;clear HV;replace HV2:=Lib.hid HV2)
  go_ret;exact⟨v1,rfl,HB1.out,HV2.out⟩
theorem l_R{o:Oper}{a:Act}{u:World}{x y z:Operand}{v:Bv}(h:o.op=.build 42 #[(0,x),(1,y),(2,z)])(hx:a.eval x=v.ds.v)(hy:a.eval y=v.os.v)(hz:a.eval z=v.pl.v):(execOp a.eval o).run Tryz.prog u=.ok (.value (bkV v)) u:=by
 obtain⟨ρ,hρ⟩:∃ρ,a.eval=ρ:=⟨_,rfl⟩;rw[hρ]at hx hy hz ⊢;unfold execOp;rw[h];simp[go_sem,hx,hy,hz]
theorem b_P{u u':World}{base k n:Nat}{e:TypeId}{v:Value}{vs:List Value}(h:OwnK u base e k v n vs)(hk:∀b,v.ownBlock=some b→u'.heap[b]?=u.heap[b]?):OwnK u' base e k v n vs:=
 (ownF.mon (D:=fun b=>v.ownBlock=some b) ⟨h,fun _=>Iff.rfl⟩ hk).1
def n_p(base:Nat)(p:List Rte)(v:Value)(D:Nat→Prop)(u:World):Prop:=
 ∃(s:Sl) (l:List RM),v=s.v∧OwnK u base 37 3 v l.length (rmsV l)∧(∀ r∈l,OwnK u base 48 2 r.v r.n (a_D r.rt.stops)∧Two r.v v)∧l.map (·.rt)=p∧(∀ r∈l,r.n*16≤140737488351232)∧∀b,D b↔v.ownBlock=some b∨∃r∈l,r.v.ownBlock=some b
theorem p_y{base:Nat}{p:List Rte}:MonF (n_p base p):=by
 rintro v D u u' ⟨s,l,e,h1,h2,h3,h4,h5⟩ hk;exact⟨s,l,e,b_P h1 fun b hb=>hk b ((h5 b).2 (.inl hb)),fun r hr=>⟨b_P (h2 r hr).1 fun b hb=>hk b ((h5 b).2 (.inr ⟨r,hr,hb⟩)),(h2 r hr).2⟩,h3,h4,h5⟩
def rowF(base k:Nat)(e:TypeId)(n:Nat)(vs:List Value)(v:Value)(D:Nat→Prop)(u:World):Prop:=∃s:Sl,v=s.v∧OwnK u base e k v n vs∧∀b,D b↔v.ownBlock=some b
theorem l_S{base k n:Nat}{e:TypeId}{vs:List Value}:MonF (rowF base k e n vs):=by
 rintro v D u u' ⟨s,e1,h,hd⟩ hk;exact⟨s,e1,b_P h fun b hb=>hk b ((hd b).2 hb),hd⟩
def g_T(base:Nat)(b:Bk)(v:Value)(D:Nat→Prop)(u:World):Prop:=
 ∃(y:Bv) (l:List RM),v=bkV y∧OwnK u base 33 6 y.ds.v b.ds.length (a_0 b.ds)∧OwnK u base 31 10 y.os.v b.os.length (a_g b.os)∧OwnK u base 37 3 y.pl.v l.length (rmsV l)∧(∀ r∈l,OwnK u base 48 2 r.v r.n (a_D r.rt.stops)∧Two r.v y.pl.v)∧l.map (·.rt)=b.pl∧(∀ r∈l,r.n*16≤140737488351232)∧(Two y.ds.v y.os.v∧Two y.ds.v y.pl.v∧Two y.os.v y.pl.v∧∀r∈l,Two y.ds.v r.v∧Two y.os.v r.v)∧∀c,D c↔y.ds.v.ownBlock=some c∨y.os.v.ownBlock=some c∨y.pl.v.ownBlock=some c∨∃r∈l,r.v.ownBlock=some c
theorem e_C{base:Nat}{b:Bk}:MonF (g_T base b):=by
 rintro v D u u' ⟨y,l,e,h1,h2,h3,h4,h5,h6,h7,hd⟩ hk;exact⟨y,l,e,b_P h1 fun c hc=>hk c ((hd c).2 (.inl hc)),b_P h2 fun c hc=>hk c ((hd c).2 (.inr (.inl hc))),b_P h3 fun c hc=>hk c ((hd c).2 (.inr (.inr (.inl hc)))),fun r hr=>⟨b_P (h4 r hr).1 fun c hc=>hk c ((hd c).2 (.inr (.inr (.inr ⟨r,hr,hc⟩)))),(h4 r hr).2⟩,h5,h6,h7,hd⟩
theorem r_C{base:Nat}{b:Bk}{v1 v2 v3:Value}{D1 D2 D3:Nat→Prop}{u:World}(h1:rowF base 6 33 b.ds.length (a_0 b.ds) v1 D1 u)(h2:rowF base 10 31 b.os.length (a_g b.os) v2 D2 u)(h3:n_p base b.pl v3 D3 u)(h12:∀c,D1 c→¬D2 c)(h13:∀c,D1 c→¬D3 c)(h23:∀c,D2 c→¬D3 c):
 ∃y:Bv,v1=y.ds.v∧v2=y.os.v∧v3=y.pl.v∧g_T base b (bkV y) (fun c=>D1 c∨D2 c∨D3 c) u:=by
 obtain⟨s1,rfl,a1,d1⟩:=h1;obtain⟨s2,rfl,a2,d2⟩:=h2;obtain⟨s3,l,rfl,a3,e3,r3,f3,d3⟩:=h3;refine⟨⟨s1,s2,s3⟩,rfl,rfl,rfl,⟨s1,s2,s3⟩,l,rfl,a1,a2,a3,e3,r3,f3,⟨fun c h h'=>h12 c ((d1 c).2 h) ((d2 c).2 h'),fun c h h'=>h13 c ((d1 c).2 h) ((d3 c).2 (.inl h')),fun c h h'=>h23 c ((d2 c).2 h) ((d3 c).2 (.inl h')),fun r hr=>⟨fun c h h'=>h13 c ((d1 c).2 h) ((d3 c).2 (.inr ⟨r,hr,h'⟩)),fun c h h'=>h23 c ((d2 c).2 h) ((d3 c).2 (.inr ⟨r,hr,h'⟩))⟩⟩,fun c=>?_⟩;show D1 c∨D2 c∨D3 c↔_;rw[d1,d2,d3]
theorem j_f{w u:World}{b:Bk}{v:Value}{D:Nat→Prop}{base:Nat}(h:g_T base b v D u)(hb:Below w.heap.size w u)(hl:w.heap.size≤base):∃y ps,v=bkV y∧BkN w u y b ps:=by
 obtain⟨y,l,e,h1,h2,h3,h4,h5,h6,h7,_⟩:=h;exact⟨y,l,e,h1.lower hl,h2.lower hl,⟨hb,h3.lower hl,fun r hr=>⟨(h4 r hr).1.lower hl,(h4 r hr).2⟩⟩,h5,h6,h7⟩
theorem k_W{u u':World}{base k n:Nat}{e:TypeId}{vs:List Value}{en:Ending}(h:c_X u e k n vs en u')(hb:base≤u.heap.size):∃v D',en=.returned v∧Below u.heap.size u u'∧(∀ b,D' b→u.heap.size≤b∧b<u'.heap.size)∧rowF base k e n vs v D' u':=by
 obtain⟨v,rfl,h1,h2⟩:=h;obtain⟨A,c,e1,hnc,_⟩:=h2.read;exact⟨v,fun b=>v.ownBlock=some b,rfl,h1,fun b hb=>a_8 h2 hb,⟨A,n,c,hnc⟩,e1,h2.lower hb,fun _=>Iff.rfl⟩
theorem r_D{u u':World}{base:Nat}{p:List Rte}{v:Value}(h:Made u u' v p)(hb:base≤u.heap.size):Below u.heap.size u u'∧∃D':Nat→Prop,(∀ b,D' b→u.heap.size≤b∧b<u'.heap.size)∧n_p base p v D' u':=by
 obtain⟨l,h1,h2,h3⟩:=h;obtain⟨A,c,e1,hnc,_⟩:=h1.own.read;refine⟨h1.old,fun b=>v.ownBlock=some b∨∃r∈l,r.v.ownBlock=some b,?_,⟨A,l.length,c,hnc⟩,l,e1,h1.own.lower hb,fun r hr=>⟨(h1.each r hr).1.lower hb,(h1.each r hr).2⟩,h2,h3,fun _=>Iff.rfl⟩;rintro b (hb|⟨r,hr,hb⟩)
 ·exact a_8 h1.own hb
 ·exact a_8 (h1.each r hr).1 hb
structure PO(w:World)(x:Bv)(b:Bk)(ps:List RM)(u:World):Prop where
 old:Below w.heap.size w u
 arg:BBox u w.heap.size 42 x
 res:BBox u (w.heap.size+1) 42 bv0
theorem PO.next{w u u':World}{x:Bv}{b:Bk}{ps:List RM}(h:PO w x b ps u)(hb:Below u.heap.size u u'):PO w x b ps u':=⟨h.old.trans (hb.mono h.old.size),h.arg.below hb,h.res.below hb⟩
theorem l_T{p:List Rte}{ps:List RM}(h:a_h p=true)(hp:ps.map (·.rt)=p):∀r∈ps,∀s∈r.rt.stops,(Lit.int .i64 s.ord).wf=true:=fun r hr s hs=>by
 have hb:=c_s (a_R h (by rw[← hp];exact List.mem_map_of_mem hr)) hs;simp[Lit.wf,IntKind.min,IntKind.max,IntKind.signed,IntKind.bits];omega
theorem g_m{w u:World}{g:Nat}{x:Bv}(h:Below w.heap.size w u)(hg:w.heap.size≤g):Below w.heap.size w (g_j u g x):=by
 unfold g_j;exact((h.setCell hg _).setCell hg _).setCell hg _
theorem p_z{u:World}{g base:Nat}{x:Bv}{b:Bk}{v:Value}{D:Nat→Prop}(h:g_T base b v D u)(hg:g<base):g_T base b v D (g_j u g x):=by
 have ho:=a_M u g x;obtain⟨y,l,e,h1,h2,h3,h4,h5⟩:=h;exact⟨y,l,e,ho.own h1 hg,ho.own h2 hg,ho.own h3 hg,fun r hr=>⟨ho.own (h4 r hr).1 hg,(h4 r hr).2⟩,h5⟩
theorem i_c(x:Bv)(b:Bk)(ps:List RM)(w:World)(h:BkR w w.heap.size x b ps)(hd:b.ds.length≤8)(ho:b.os.length≤40)(hp:a_h b.pl=true):
 Calls Tryz.prog 53 #[bkV x] w (fun e w'=>∃y ps',e=.returned (bkV y)∧BkN w w' y b ps'):=by
 have hwf:=l_T hp h.rt;have hpl:b.pl.length≤8:=by have:=hp;unfold a_h at this;simp only[Bool.and_eq_true,decide_eq_true_eq]at this;exact this.1.1.1
 have HDN:=h.dn;have HON:=h.on;have HPN:=h.pn
 have HS:Hid (PO w x b ps ((w.alloc (.cells #[x.ds.v,x.os.v,x.pl.v] 42)).alloc (.cells #[.slice none 0 0,.slice none 0 0,.slice none 0 0] 42))):=
  ⟨((Below.refl _ _).alloc (Nat.le_refl _) _).alloc (by simp) _,(BBox.new w _ x).below ((Below.refl _ _).alloc (Nat.le_refl _) _),by have:=BBox.new (w.alloc (.cells #[x.ds.v,x.os.v,x.pl.v] 42)) 42 bv0;simpa using this⟩
 have HR:=Lib.hid h;have HWF:=Lib.hid hwf;clear h hwf hp;go_enter Tryz.func53,Tryz.ntmps53;go_upto_region 1 with fail
 try simp only[World.size_alloc,Nat.add_assoc,Nat.reduceAdd]
 have HXS:((w.alloc (.cells #[x.ds.v,x.os.v,x.pl.v] 42)).alloc (.cells #[.slice none 0 0,.slice none 0 0,.slice none 0 0] 42)).heap.size=w.heap.size+2:=by simp
 obtain⟨X,hX⟩:∃u,((w.alloc (.cells #[x.ds.v,x.os.v,x.pl.v] 42)).alloc (.cells #[.slice none 0 0,.slice none 0 0,.slice none 0 0] 42))=u:=⟨_,rfl⟩;rw[hX]at HS HXS ⊢;clear hX
 have HC1:Hid (∀ u,Below X.heap.size X u→Calls Tryz.prog 49 #[x.ds.v] u (fun en u'=>∃v D',en=.returned v∧Below u.heap.size u u'∧(∀ b,D' b→u.heap.size≤b∧b<u'.heap.size)∧rowF X.heap.size 6 33 b.ds.length (a_0 b.ds) v D' u')):=fun u hu=>by
  have hk:=(HR.out.keep (HS.out.next hu).old).more (HS.out.next hu).old.size;refine(g_k x.ds.a x.ds.n x.ds.c b.ds u hk.ds (by omega)).mono fun en u' hm=>?_;rw[HDN];exact k_W hm hu.size
 have HC2:Hid (∀ u,Below X.heap.size X u→Calls Tryz.prog 94 #[x.os.v] u (fun en u'=>∃v D',en=.returned v∧Below u.heap.size u u'∧(∀ b,D' b→u.heap.size≤b∧b<u'.heap.size)∧rowF X.heap.size 10 31 b.os.length (a_g b.os) v D' u')):=fun u hu=>by
  have hk:=(HR.out.keep (HS.out.next hu).old).more (HS.out.next hu).old.size;refine(g_l x.os.a x.os.n x.os.c b.os u hk.os (by omega)).mono fun en u' hm=>?_;rw[HON];exact k_W hm hu.size
 have HC3:Hid (∀ u,Below X.heap.size X u→Calls Tryz.prog 96 #[x.pl.v,.slice none 0 0] u (fun en u'=>∃v D',en=.returned v∧Below u.heap.size u u'∧(∀ b,D' b→u.heap.size≤b∧b<u'.heap.size)∧n_p X.heap.size b.pl v D' u')):=fun u hu=>by
  have hk:=(HR.out.keep (HS.out.next hu).old).more (HS.out.next hu).old.size;refine(c_F x.pl.a x.pl.n x.pl.c ps none 0 0 [] u hk.pl (by omega) Reads.none_ HWF.out (fun z hz=>by cases hz)).mono ?_;rintro en u' ⟨v,rfl,hm⟩;rw[hk.rt,f_g]at hm;obtain⟨h1,D',h2,h3⟩:=r_D hm hu.size;exact⟨v,D',rfl,h1,h2,h3⟩
 clear HDN HON HPN HWF;obtain⟨fs,hfs⟩:∃fs:List FactD,[⟨2,some 9,rowF X.heap.size 6 33 b.ds.length (a_0 b.ds)⟩,⟨5,some 9,rowF X.heap.size 10 31 b.os.length (a_g b.os)⟩,⟨8,some 9,n_p X.heap.size b.pl⟩,⟨9,none,g_T X.heap.size b⟩]=fs:=⟨_,rfl⟩;have F2:FactD.of fs 2=some ⟨2,some 9,rowF X.heap.size 6 33 b.ds.length (a_0 b.ds)⟩:=by rw[← hfs];rfl
 have F5:FactD.of fs 5=some ⟨5,some 9,rowF X.heap.size 10 31 b.os.length (a_g b.os)⟩:=by rw[← hfs];rfl
 have F8:FactD.of fs 8=some ⟨8,some 9,n_p X.heap.size b.pl⟩:=by rw[← hfs];rfl
 have F9:FactD.of fs 9=some ⟨9,none,g_T X.heap.size b⟩:=by rw[← hfs];rfl
 have FN:∀k,k=0∨k=1∨k=3∨k=4∨k=6∨k=7→FactD.of fs k=none:=by rw[← hfs];rintro k (rfl|rfl|rfl|rfl|rfl|rfl)<;>rfl
 refine d_F (l:=[_,_,_,_,_,_,_,_,_,_]) (o:=_) rfl (genRF [3,4,5,6,7,8,9,10,11,12] [.pointer (some ⟨w.heap.size,0,none⟩),x.ds.v,undef,.pointer (some ⟨w.heap.size,1,none⟩),x.os.v,undef,.pointer (some ⟨w.heap.size,2,none⟩),x.pl.v,undef,undef] fs) (by kernel_rfl) (by kernel_rfl) (by kernel_rfl) (genRF.free (n:=11) (by rw[← hfs];rfl)) (by rw[← hfs];kernel_rfl) (by kernel_rfl) (genRF.mon (by rw[← hfs];intro y hy;simp only[List.mem_cons,List.not_mem_nil,or_false]at hy;rcases hy with rfl|rfl|rfl|rfl<;>first|exact l_S|exact p_y|exact e_C)) ?_ rfl ?_
 ·refine⟨?_,?_,?_,?_,?_,?_,?_,?_,?_,?_,trivial⟩
  ·exact genRF.pureStep rfl 3 rfl rfl (by simp) (FN 0 (by simp)) _ rfl fun listed a u D hI hr hn=>a_H rfl (hI.out 1 (by kernel_rfl)) (by simp[go_sem])
  ·exact genRF.pureStep rfl 4 rfl rfl (by simp) (FN 1 (by simp)) _ rfl fun listed a u D hI hr hn=>a_f rfl (genRF.val hI hr hn 0 (by kernel_rfl) (FN 0 (by simp)) rfl rfl) (h_u (HS.out.next (a_C hI.old)).arg.cells.1)
  ·exact genRF.callF rfl 5 rfl rfl (by simp) F2 fun listed a u D hI hr hn=>⟨_,_,c_m rfl (genRF.val hI hr hn 1 (by kernel_rfl) (FN 1 (by simp)) rfl rfl) (by simp[go_sem]),HC1.out _ (a_C hI.old)⟩
  ·exact genRF.pureStep rfl 6 rfl rfl (by simp) (FN 3 (by simp)) _ rfl fun listed a u D hI hr hn=>a_H rfl (hI.out 1 (by kernel_rfl)) (by simp[go_sem])
  ·exact genRF.pureStep rfl 7 rfl rfl (by simp) (FN 4 (by simp)) _ rfl fun listed a u D hI hr hn=>a_f rfl (genRF.val hI hr hn 3 (by kernel_rfl) (FN 3 (by simp)) rfl rfl) (run_load_os (HS.out.next (a_C hI.old)).arg.cells.2.1)
  ·exact genRF.callF rfl 8 rfl rfl (by simp) F5 fun listed a u D hI hr hn=>⟨_,_,c_m rfl (genRF.val hI hr hn 4 (by kernel_rfl) (FN 4 (by simp)) rfl rfl) (by simp[go_sem]),HC2.out _ (a_C hI.old)⟩
  ·exact genRF.pureStep rfl 9 rfl rfl (by simp) (FN 6 (by simp)) _ rfl fun listed a u D hI hr hn=>a_H rfl (hI.out 1 (by kernel_rfl)) (by simp[go_sem])
  ·exact genRF.pureStep rfl 10 rfl rfl (by simp) (FN 7 (by simp)) _ rfl fun listed a u D hI hr hn=>a_f rfl (genRF.val hI hr hn 6 (by kernel_rfl) (FN 6 (by simp)) rfl rfl) (d_O (HS.out.next (a_C hI.old)).arg.cells.2.2)
  ·exact genRF.callF rfl 11 rfl rfl (by simp) F8 fun listed a u D hI hr hn=>⟨_,_,b_5 rfl (genRF.val hI hr hn 7 (by kernel_rfl) (FN 7 (by simp)) rfl rfl) rfl (by simp[go_sem]),HC3.out _ (a_C hI.old)⟩
  ·refine genRF.valF rfl 12 rfl rfl (by simp) F9 fun listed a u D hI hr hn=>?_
   have g2:=genRF.get hI hr hn 2 (by kernel_rfl) F2 (.inr rfl) (s:=5) rfl;have g5:=genRF.get hI hr hn 5 (by kernel_rfl) F5 (.inr rfl) (s:=8) rfl;have g8:=genRF.get hI hr hn 8 (by kernel_rfl) F8 (.inr rfl) (s:=11) rfl;obtain⟨y,e1,e2,e3,hb⟩:=r_C g2.1 g5.1 g8.1 (genRF.far hI hr hn 2 5 (by kernel_rfl) (by kernel_rfl) F2 F5 (.inr rfl) (.inr rfl) (by decide)) (genRF.far hI hr hn 2 8 (by kernel_rfl) (by kernel_rfl) F2 F8 (.inr rfl) (.inr rfl) (by decide)) (genRF.far hI hr hn 5 8 (by kernel_rfl) (by kernel_rfl) F5 F8 (.inr rfl) (.inr rfl) (by decide));refine⟨bkV y,fun c=>D 2 c∨D 5 c∨D 8 c,l_R rfl e1 e2 e3,?_,hb⟩;rintro c (hc|hc|hc)
   ·exact⟨2,genRF.eats F2 rfl,hc⟩
   ·exact⟨5,genRF.eats F5 rfl,hc⟩
   ·exact⟨8,genRF.eats F8 rfl,hc⟩
 ·intro listed a u D hI hall hr hn K hK
  have g9:=genRF.get hI hr hn 9 (by kernel_rfl) F9 (.inl rfl) (s:=12) rfl;have e2:a.tmps.getD 2 undef=.pointer (some ⟨w.heap.size+1,0,none⟩):=hI.out 2 (by kernel_rfl);have HS5:=HS.out.next (a_C hI.old)
  obtain⟨y,l,e12,hbk⟩:∃y,∃l:List RM,a.tmps.getD 12 undef=bkV y∧g_T X.heap.size b (bkV y) (D 9) u:=by
   have hg:=g9.1;obtain⟨y,l,e,hh⟩:=g9.1;refine⟨y,l,e,?_⟩;rw[← e];exact hg
  have HB:=Lib.hid (p_z (x:=y) hbk (show w.heap.size+1<X.heap.size by omega));have HRS:=Lib.hid (BBox.cells (c_z HS5.res y));have HBE:=Lib.hid (g_m (x:=y) (g:=w.heap.size+1) HS5.old (by omega));have hl:=hI.fill [3,4,5,6,7,8,9,10,11,12] (by kernel_rfl);refine e_Z rfl (b_m rfl e2 e12 (c_G HS5.res y)) (hK _ _ ?_);clear hI hall hr hn hK HC1 HC2 HC3 HS HS5 e2 e12 F2 F5 F8 F9 FN hfs g9 hbk;obtain⟨σ,hσ⟩:∃σ:Nat→Value,∀t,a.tmps.getD t undef=σ t:=⟨_,fun _=>rfl⟩;simp only[hσ]at hl;clear hσ;simp only[List.foldl_cons,List.foldl_nil,List.setIfInBounds_toArray,List.set_cons_zero,List.set_cons_succ]at hl;subst hl;obtain⟨w6,hw6⟩:∃v,g_j u (w.heap.size+1) y=v:=⟨_,rfl⟩;rw[hw6]at HRS HBE HB ⊢;clear hw6;go_wp2_with fail
  refine bodyPost_ret (v:=bkV y) ?_ rfl ?_
  ·obtain⟨r0,r1,r2⟩:=HRS.out
   simp[results,Tryz.results53,go_sem,r0,r1,r2]
  ·obtain⟨y',ps',e,hn⟩:=j_f HB.out HBE.out (by omega)
   exact⟨y',ps',by rw[e],hn⟩
theorem p_A{u:World}{base k n i:Nat}{e:TypeId}{v z:Value}{vs:List Value}(h:OwnK u base e k v n vs)(hi:i<n*k):
 ∃g c,v=.slice (some ⟨g,0,none⟩) n c∧n≤c∧base≤g∧g<u.heap.size∧u.cell? ⟨g,i,none⟩=vs[i]?∧(∃ y,vs[i]?=some y)∧u.frozen? ⟨g,i,none⟩=false∧OwnK (u.setCell ⟨g,i,none⟩ z) base e k v n (vs.set i z):=by
 obtain⟨⟨hl,hrow⟩,hm⟩:=h;rcases hrow with⟨_,rfl⟩|⟨g,cap,cur,rfl,hg,hh,hnc,hcm,hcs,htk⟩
 ·omega
 have hB:Blk u g e cur.toList:=by simpa[Blk]using hh
 have hcl:n*k≤cap*k:=Nat.mul_le_mul_right _ hnc;have hlt:i<cur.toList.length:=by rw[Array.length_toList,hcs];omega
 have hv:vs[i]?=some cur.toList[i]:=by rw[← htk,List.getElem?_take,if_pos hi];exact List.getElem?_eq_getElem hlt
 refine⟨g,cap,rfl,hnc,hg,hB.lt,?_,⟨_,hv⟩,hB.free _,⟨by rw[List.length_set];exact hl,.inr ⟨g,cap,(cur.toList.set i z).toArray,rfl,hg,hB.put i z,hnc,hcm,by simp[hcs],?_⟩⟩,hm⟩
 ·rw[hv];exact hB.cell (List.getElem?_eq_getElem hlt)
 ·rw[List.take_set,htk]
theorem b_Q{u:World}{base k n g i:Nat}{e:TypeId}{v z:Value}{vs:List Value}(h:OwnK u base e k v n vs)(hg:v.ownBlock≠some g):OwnK (u.setCell ⟨g,i,none⟩ z) base e k v n vs:=
 b_P h fun b hb=>Below.heap_setCell _ _ _ _ (fun e=>hg (by rw[hb,e]))
structure Off(g:Nat)(y:Bv)(ps:List RM):Prop where
 ds:y.ds.v.ownBlock≠some g
 os:y.os.v.ownBlock≠some g
 pl:y.pl.v.ownBlock≠some g
 each:∀r∈ps,r.v.ownBlock≠some g
section
variable {w0 u u' : World} {y : Bv} {b : Bk} {ps : List RM} {g : Nat}
theorem d_y{base k n:Nat}{e:TypeId}{v:Value}{vs:List Value}(h:OwnK u base e k v n vs)(hg:u.heap.size≤g∨g<base):v.ownBlock≠some g:=fun e=>by have:=a_8 h e;omega
theorem BkN.off(h:BkN w0 u y b ps)(hg:u.heap.size≤g∨g<w0.heap.size):Off g y ps:=⟨d_y h.ds hg,d_y h.os hg,d_y h.pl.own hg,fun r hr=>d_y (h.pl.each r hr).1 hg⟩
theorem BkN.set_off(h:BkN w0 u y b ps)(ho:Off g y ps)(hg:w0.heap.size≤g)(i:Nat)(z:Value):BkN w0 (u.setCell ⟨g,i,none⟩ z) y b ps:=
 ⟨b_Q h.ds ho.ds,b_Q h.os ho.os,⟨h.old.setCell hg _,b_Q h.pl.own ho.pl,fun r hr=>⟨b_Q (h.pl.each r hr).1 (ho.each r hr),(h.pl.each r hr).2⟩⟩,h.rt,h.fits,h.two⟩
theorem n_q{l:List RM}{i:Nat}{x:RM}(hx:l[i]?=some x)(z:Int):(rmsV l).set (i*3+1) (.int .i64 z)=rmsV (l.set i ⟨⟨x.rt.drv,z,x.rt.stops⟩,x.a,x.n,x.c⟩):=by
 induction l generalizing i with
 |nil=>cases hx
 |cons y r ih=>
  cases i with
  |zero=>simp at hx;subst hx;rfl
  |succ i=>
   have h1:=ih (i:=i) (by simpa using hx);rw[List.set_cons_succ];have e1:∀t,rmsV (y::t)=.int .i64 y.rt.drv::.int .i64 y.rt.served::.slice y.a y.n y.c::rmsV t:=fun t=>rfl;rw[e1,e1,←h1,show(i+1)*3+1=(i*3+1)+1+1+1 by omega];rfl
theorem p_B{l:List RM}{i:Nat}{x:RM}(hx:l[i]?=some x):(rmsV l)[i*3+1]?=some (.int .i64 x.rt.served):=by
 induction l generalizing i with
 |nil=>cases hx
 |cons y r ih=>
  cases i with
  |zero=>simp at hx;subst hx;rfl
  |succ i=>
   have e1:∀t,rmsV (y::t)=.int .i64 y.rt.drv::.int .i64 y.rt.served::.slice y.a y.n y.c::rmsV t:=fun t=>rfl;rw[e1,show(i+1)*3+1=(i*3+1)+1+1+1 by omega];exact ih (i:=i) (by simpa using hx)
theorem BkN.serve{k:Nat}{r:RM}(h:BkN w0 u y b ps)(hk:ps[k]?=some r)(z:Int):
 ∃g,y.pl.a=some ⟨g,0,none⟩∧y.pl.n=ps.length∧u.cell? ⟨g,k*3+1,none⟩=some (.int .i64 r.rt.served)∧u.frozen? ⟨g,k*3+1,none⟩=false∧g<u.heap.size∧BkN w0 (u.setCell ⟨g,k*3+1,none⟩ (.int .i64 z)) y ⟨b.ds,b.os,b.pl.set k ⟨r.rt.drv,z,r.rt.stops⟩⟩ (ps.set k ⟨⟨r.rt.drv,z,r.rt.stops⟩,r.a,r.n,r.c⟩):=by
 have hlt:=(List.getElem?_eq_some_iff.1 hk).1;obtain⟨g,c,e,_,hg,hgl,hc,_,hf,hn⟩:=p_A (i:=k*3+1) (z:=.int .i64 z) h.pl.own (by omega);injection e with e1 e2 _;have ho:y.pl.v.ownBlock=some g:=by show(Value.slice y.pl.a y.pl.n y.pl.c).ownBlock=_;rw[e1];rfl
 obtain⟨t1,t2,t3,t4⟩:=h.two;rw[n_q hk]at hn;have hmem:r∈ps:=List.mem_of_getElem? hk;refine⟨g,e1,e2,by rw[hc,p_B hk],hf,hgl,b_Q h.ds fun e=>t2 g e ho,b_Q h.os fun e=>t3 g e ho,⟨h.old.setCell hg _,by rw[List.length_set];exact hn,fun x hx=>?_⟩,?_,fun x hx=>?_,t1,t2,t3,fun x hx=>?_⟩
 ·rcases List.mem_or_eq_of_mem_set hx with hx|rfl
  ·exact⟨b_Q (h.pl.each x hx).1 fun e=>(h.pl.each x hx).2 g e ho,(h.pl.each x hx).2⟩
  ·exact⟨b_Q (h.pl.each r hmem).1 fun e=>(h.pl.each r hmem).2 g e ho,(h.pl.each r hmem).2⟩
 ·rw[List.map_set,h.rt]
 ·rcases List.mem_or_eq_of_mem_set hx with hx|rfl
  ·exact h.fits x hx
  ·exact h.fits r hmem
 ·rcases List.mem_or_eq_of_mem_set hx with hx|rfl
  ·exact t4 x hx
  ·exact t4 r hmem
theorem k_X{ds:List Drv}{d:Drv}:putIn (a_0 ds) (atD ds d.id) 6 (a_0 [d])=a_0 (f_i ds d):=by
 have hi:atD ds d.id≤ds.length:=by unfold atD;exact(List.takeWhile_prefix _).length_le
 unfold putIn f_i;obtain⟨k,hk⟩:∃k,atD ds d.id=k:=⟨_,rfl⟩;rw[hk]at hi ⊢;have ap:∀a b:List Drv,a_0 (a++b)=a_0 a++a_0 b:=fun a b=>by simp[a_0]
 have e:a_0 ds=a_0 (ds.take k)++a_0 (ds.drop k):=by rw[← ap,List.take_append_drop]
 have hl:(a_0 (ds.take k)).length=k*6:=by rw[d_H,List.length_take,Nat.min_eq_left hi]
 rw[ap,e,List.take_left' hl,List.drop_left' hl];rfl
abbrev newR(i:Int):RM:=⟨⟨i,0,[]⟩,none,0,0⟩
theorem j_g{ps:List RM}{k:Nat}{i:Int}(hk:k≤ps.length):putIn (rmsV ps) k 3 (rmsV [newR i])=rmsV (ps.take k++newR i::ps.drop k):=by
 unfold putIn;have e:rmsV ps=rmsV (ps.take k)++rmsV (ps.drop k):=by rw[← b_0,List.take_append_drop]
 have hl:(rmsV (ps.take k)).length=k*3:=by rw[e_o,List.length_take,Nat.min_eq_left hk]
 have hsp:rmsV (ps.take k++newR i::ps.drop k)=rmsV (ps.take k)++(rmsV [newR i]++rmsV (ps.drop k)):=by
  have e2:newR i::ps.drop k=[newR i]++ps.drop k:=rfl;rw[b_0,e2,b_0]
 rw[hsp,e,List.take_left' hl,List.drop_left' hl]
theorem BkN.hire1{d:Drv}{v':Value}(h:BkN w0 u y b ps)(ho:OwnK u' w0.heap.size 33 6 v' (b.ds.length+1) (putIn (a_0 b.ds) (atD b.ds d.id) 6 (a_0 [d])))(hg:u.grownBy u' y.ds.v.ownBlock)(hor:v'.ownBlock=y.ds.v.ownBlock∨v'.ownBlock=some u.heap.size):
 ∃s:Sl,v'=s.v∧BkN w0 u' ⟨s,y.os,y.pl⟩ ⟨f_i b.ds d,b.os,b.pl⟩ ps:=by
 obtain⟨A,c,e,hnc,_⟩:=ho.read;obtain⟨t1,t2,t3,t4⟩:=h.two;rw[k_X]at ho
 have hl:(f_i b.ds d).length=b.ds.length+1:=by
  have:=ho.len;rw[d_H]at this;omega
 have st:∀{k n:Nat} {e:TypeId} {v:Value} {vs:List Value},OwnK u w0.heap.size e k v n vs→Two y.ds.v v→OwnK u' w0.heap.size e k v n vs∧Two v' v:=fun h1 h2=>⟨h1.other hg fun q hq e=>h2 q e hq,(Two.grown h2.symm h1 hor).symm⟩;subst e;refine⟨⟨A,b.ds.length+1,c,hnc⟩,rfl,by rw[hl];exact ho,(st h.os t1).1,⟨h.ds.below h.old hg h.old.size (Nat.le_refl _),(st h.pl.own t2).1,fun r hr=>⟨(st (h.pl.each r hr).1 (t4 r hr).1).1,(h.pl.each r hr).2⟩⟩,h.rt,h.fits,(st h.os t1).2,(st h.pl.own t2).2,t3,fun r hr=>⟨(st (h.pl.each r hr).1 (t4 r hr).1).2,(t4 r hr).2⟩⟩
theorem BkN.hire2{k:Nat}{i:Int}{v':Value}(h:BkN w0 u y b ps)(hk:k≤ps.length)(ho:OwnK u' w0.heap.size 37 3 v' (ps.length+1) (putIn (rmsV ps) k 3 (rmsV [newR i])))(hg:u.grownBy u' y.pl.v.ownBlock)(hor:v'.ownBlock=y.pl.v.ownBlock∨v'.ownBlock=some u.heap.size):
 ∃s:Sl,v'=s.v∧BkN w0 u' ⟨y.ds,y.os,s⟩ ⟨b.ds,b.os,g_f k b.pl i⟩ (ps.take k++newR i::ps.drop k):=by
 obtain⟨A,c,e,hnc,_⟩:=ho.read;obtain⟨t1,t2,t3,t4⟩:=h.two;rw[j_g hk]at ho;have hl:(ps.take k++newR i::ps.drop k).length=ps.length+1:=by rw[List.length_append,List.length_cons,List.length_take,List.length_drop];omega
 have st:∀{k n:Nat} {e:TypeId} {v:Value} {vs:List Value},OwnK u w0.heap.size e k v n vs→Two v y.pl.v→OwnK u' w0.heap.size e k v n vs∧Two v v':=fun h1 h2=>⟨h1.other hg fun q hq e=>h2 q hq e,Two.grown h2 h1 hor⟩
 have mem:∀{P:RM→Prop},(∀ r∈ps,P r)→P (newR i)→∀r∈ps.take k++newR i::ps.drop k,P r:=fun h1 h2 r hr=>by
  rcases List.mem_append.1 hr with hr|hr
  ·exact h1 r (List.mem_of_mem_take hr)
  ·rcases List.mem_cons.1 hr with rfl|hr
   ·exact h2
   ·exact h1 r (List.mem_of_mem_drop hr)
 subst e;refine⟨⟨A,ps.length+1,c,hnc⟩,rfl,(st h.ds t2).1,(st h.os t3).1,⟨h.pl.own.below h.old hg h.old.size (Nat.le_refl _),by rw[hl];exact ho,?_⟩,?_,?_,t1,(st h.ds t2).2,(st h.os t3).2,?_⟩
 ·exact mem (fun r hr=>st (h.pl.each r hr).1 (h.pl.each r hr).2) ⟨OwnK.nil _ _ _ _,Two.nil _⟩
 ·rw[List.map_append,List.map_cons,List.map_take,List.map_drop,h.rt];rfl
 ·exact mem h.fits (by simp)
 ·exact mem t4 ⟨(Two.nil _).symm,(Two.nil _).symm⟩
end
end Pln
end Go.Proofs.YtkpnmpjnpcjohaaGreat
