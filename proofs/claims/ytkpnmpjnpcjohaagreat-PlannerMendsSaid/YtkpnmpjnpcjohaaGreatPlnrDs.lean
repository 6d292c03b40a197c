import Derived.Test.YtkpnmpjnpcjohaaGreatPlnrBs
import Derived.Test.YtkpnmpjnpcjohaaGreatPlnrCs
import Derived.Test.YtkpnmpjnpcjohaaGreatInsertPs
import Derived.Test.YtkpnmpjnpcjohaaGreatPlanOrds
set_option linter.unusedSimpArgs false
set_option linter.unusedVariables false
set_option maxHeartbeats 8000000
set_option maxRecDepth 100000
namespace Go.Proofs.YtkpnmpjnpcjohaaGreat
open ChangeShapes WideShapes ChangeAt RowKit Mem GeoMath FleetMath PlanMath CertMath AuditMath InsertMath RepairMath PlannerMath Rec Geo Span Deal Keep Plan Cert Audit
namespace Pln
open Go.Proofs.YtkpnmpjnpcjohaaGreat.Insert
structure PW(w:World)(q:Option Addr)(m:Option Mp)(base:Nat)(x:Bv)(b:Bk)(ps:List RM)(o:FleetMath.Ord)(u:World):Prop where
 pc:PC w q m base w.heap.size (w.heap.size+2) x b ps u
 ord:OBox u (w.heap.size+1) o
theorem PW.next{w u u':World}{q:Option Addr}{m:Option Mp}{base:Nat}{x:Bv}{b:Bk}{ps:List RM}{o:FleetMath.Ord}(h:PW w q m base x b ps o u)(hb:Below u.heap.size u u'):PW w q m base x b ps o u':=⟨h.pc.next hb,h.ord.below hb⟩
theorem PW.start(w:World)(q:Option Addr)(m:Option Mp)(base:Nat)(x:Bv)(b:Bk)(ps:List RM)(o:FleetMath.Ord)(h:MapP w 92 base (.pointer q) m)(hx:BkR w w.heap.size x b ps):PW w q m base x b ps o (((w.alloc (.cells #[x.ds.v,x.os.v,x.pl.v] 42)).alloc (.cells #[.int .i64 o.id,.int .i64 o.size,.int .i64 o.pick.place,.int .i64 o.pick.win.fr,.int .i64 o.pick.win.to,.int .i64 o.pick.serv,.int .i64 o.drop.place,.int .i64 o.drop.win.fr,.int .i64 o.drop.win.to,.int .i64 o.drop.serv] 31)).alloc (.cells #[.slice none 0 0,.slice none 0 0,.slice none 0 0] 42)):=by
 refine⟨⟨(((Below.refl _ _).alloc (Nat.le_refl _) _).alloc (by simp) _).alloc (by simp;omega) _,h,hx,(BBox.new w _ x).below ?_,?_⟩,?_⟩
 ·exact((Below.refl _ _).alloc (Nat.le_refl _) _).alloc (by simp) _
 ·have:=BBox.new ((w.alloc (.cells #[x.ds.v,x.os.v,x.pl.v] 42)).alloc (.cells #[.int .i64 o.id,.int .i64 o.size,.int .i64 o.pick.place,.int .i64 o.pick.win.fr,.int .i64 o.pick.win.to,.int .i64 o.pick.serv,.int .i64 o.drop.place,.int .i64 o.drop.win.fr,.int .i64 o.drop.win.to,.int .i64 o.drop.serv] 31)) 42 bv0
  simpa using this
 ·have:=(show OBox ((w.alloc (.cells #[x.ds.v,x.os.v,x.pl.v] 42)).alloc (.cells #[.int .i64 o.id,.int .i64 o.size,.int .i64 o.pick.place,.int .i64 o.pick.win.fr,.int .i64 o.pick.win.to,.int .i64 o.pick.serv,.int .i64 o.drop.place,.int .i64 o.drop.win.fr,.int .i64 o.drop.win.to,.int .i64 o.drop.serv] 31)) (w.alloc (.cells #[x.ds.v,x.os.v,x.pl.v] 42)).heap.size o from Blk.new _ _ _).below ((Below.refl _ _).alloc (Nat.le_refl _) (.cells #[.slice none 0 0,.slice none 0 0,.slice none 0 0] 42))
  simpa using this
def s_R(base:Nat)(xd pl:Sl)(n:Nat)(vs:List Value)(v:Value)(D:Nat→Prop)(u:World):Prop:=∃s:Sl,v=bkV ⟨xd,s,pl⟩∧OwnK u base 31 10 s.v n vs∧∀c,D c↔s.v.ownBlock=some c
theorem p_I{base n:Nat}{xd pl:Sl}{vs:List Value}:MonF (s_R base xd pl n vs):=by
 rintro v D u u' ⟨s,e,h,hd⟩ hk;exact⟨s,e,b_P h fun c hc=>hk c ((hd c).2 hc),hd⟩
theorem l_W{P:Program}{o:Oper}{a:Act}{u:World}{f:Nat}{ts:Array TypeId}{x y z:Operand}{v1 v2 v3:Value}(h:o.op=.call {callee:=.value (.func f),args:=#[x,y,z],argTypes:=ts })(h1:a.eval x=v1)(h2:a.eval y=v2)(h3:a.eval z=v3)(hf:(callFunc f #[v1,v2,v3]).run P u=.ok (.enter f #[v1,v2,v3]) u):(execOp a.eval o).run P u=.ok (.enter f #[v1,v2,v3]) u:=by
 have hf':a.eval (.func f)=.func (.func f) #[] #[]:=rfl;obtain⟨ρ,hρ⟩:∃ρ,a.eval=ρ:=⟨_,rfl⟩;rw[hρ]at h1 h2 h3 hf' ⊢;unfold execOp;rw[h];simp[go_sem,h1,h2,h3,hf',hf]
theorem r_F{R:RF}{w0 u u':World}{D:Nat→Nat→Prop}{k m m' i j base:Nat}{e:TypeId}{v v':Value}{vs vs':List Value}(ho:Below w0.heap.size w0 u)(hD:∀b,D j b↔v.ownBlock=some b)(hj:R.eater j=some i)(hv:OwnK u base e k v m vs)(hv':OwnK u' base e k v' m' vs')(hbase:w0.heap.size≤base)
 (hg:u.grownBy u' v.ownBlock) (hor:v'.ownBlock=v.ownBlock∨v'.ownBlock=some u.heap.size) (hf:R.fact i v' (fun b=>v'.ownBlock=some b) u'):RPostV R w0 i u D v' u' (fun b=>v'.ownBlock=some b):=by
 refine⟨hv.below ho hg ho.size hbase,hg.size,fun b hlt hn=>hg.block b hlt fun e=>hn j hj ((hD b).2 e.symm),fun b hd=>?_,hf⟩;rcases hor with h|h
 ·exact .inl ⟨j,hj,(hD b).2 (by rw[← h];exact hd)⟩
 ·rw[h]at hd
  injection hd with hd;subst hd;have h6:=a_8 hv' h;exact .inr ⟨Nat.le_refl _,h6.2⟩
theorem j_j{os:List FleetMath.Ord}{o:FleetMath.Ord}:putIn (a_g os) (atO os o.id) 10 (a_g [o])=a_g (b_w os o):=by
 have hi:atO os o.id≤os.length:=by unfold atO;exact(List.takeWhile_prefix _).length_le
 unfold putIn b_w;rw[a_Z];obtain⟨k,hk⟩:∃k,atO os o.id=k:=⟨_,rfl⟩;rw[hk]at hi ⊢;have e:a_g os=a_g (os.take k)++a_g (os.drop k):=by rw[← a_Z,List.take_append_drop]
 have hl:(a_g (os.take k)).length=k*10:=by rw[a_U,List.length_take,Nat.min_eq_left hi]
 rw[e,List.take_left' hl,List.drop_left' hl];rfl
theorem l_X{a:Act}{t:Nat}{v:Value}(h:t<a.tmps.size):(a.put (some t) v).eval (.tmp t)=v:=by simp[Act.eval,Act.put,h]
def g_n(m:Option Mp)(b:Bk)(o:FleetMath.Ord)(n:Int):Bk×Int×Int:=
 match a_2 m b.ds b.os b.pl o n with
 |(s,k,e)=>if e≠0 then(bk0,k,e)else(⟨b.ds,b_w b.os o,(b_U b.pl o.id ⟨s.drv,s.pick,s.drop⟩).getD []⟩,k,0)
def WkOk(w:World)(r:Bk×Int×Int)(e:Ending)(w':World):Prop:=∃y ps,e=.returned (.tuple #[bkV y,.int .i64 r.2.1,.int .i64 r.2.2])∧Below w.heap.size w w'∧BkR w' w'.heap.size y r.1 ps
theorem h_w(base:Nat)(q:Option Addr)(m:Option Mp)(x:Bv)(b:Bk)(ps:List RM)(o:FleetMath.Ord)(n:Int)(w:World)(h:MapP w 92 base (.pointer q) m)(hx:BkR w w.heap.size x b ps)(h40:b.os.length≤40)(ha:AscO b.os):
 Calls Tryz.prog 41 #[.pointer q,bkV x,ordV o,.int .i64 n] w (WkOk w (g_n m b o n)):=by
 have HS:=Lib.hid (PW.start w q m base x b ps o h hx);have HA:=Lib.hid ha;obtain⟨Z,hZ⟩:∃z,a_2 m b.ds b.os (ps.map (·.rt)) o n=z:=⟨_,rfl⟩;obtain⟨s,k,e⟩:=Z;have HZ:Hid (a_2 m b.ds b.os b.pl o n=(s,k,e)):=by show _=_;rw[← hx.rt];exact hZ
 have HZ0:=Lib.hid hZ;have hon:=hx.on;clear h hx ha hZ;go_enter Tryz.func41,Tryz.ntmps41;go_upto_region 1 with fail
 try simp only[World.size_alloc,Nat.add_assoc,Nat.reduceAdd]
 obtain⟨X,hX⟩:∃u,(((w.alloc (.cells #[x.ds.v,x.os.v,x.pl.v] 42)).alloc (.cells #[.int .i64 o.id,.int .i64 o.size,.int .i64 o.pick.place,.int .i64 o.pick.win.fr,.int .i64 o.pick.win.to,.int .i64 o.pick.serv,.int .i64 o.drop.place,.int .i64 o.drop.win.fr,.int .i64 o.drop.win.to,.int .i64 o.drop.serv] 31)).alloc (.cells #[.slice none 0 0,.slice none 0 0,.slice none 0 0] 42))=u:=⟨_,rfl⟩;rw[hX]at HS;rw[hX];obtain⟨c0,c1,c2⟩:=HS.out.pc.arg.cells;obtain⟨g0,g1,g2,g3,g4,g5,g6,g7,g8,g9⟩:=HS.out.ord.cells;go_wp2_with fail
 refine(e_n base (.pointer q) m x.ds.a x.ds.n x.ds.c b.ds x.os.a x.os.n x.os.c b.os x.pl.a x.pl.n x.pl.c ps o n _ (by exact HS.out.pc.mp) (by exact HS.out.pc.read.ds) (by exact HS.out.pc.read.os) (by exact HS.out.pc.read.pl) x.ds.h x.os.h x.pl.h (by omega)).mono ?_;rintro e' w1 ⟨rfl,hb1⟩;rw[HZ0.out];have HS1:=Lib.hid (HS.out.next hb1);clear hb1 HS c0 c1 c2 g0 g1 g2 g3 g4 g5 g6 g7 g8 g9;simp only[c_g];go_upto_region 2 with fail
 clear hX;have HS2:=Lib.hid (HS1.out.next ((Below.refl _ _).alloc (Nat.le_refl _) (.cells #[.int .i64 s.drv,.int .i64 s.pick,.int .i64 s.drop,.int .i64 s.cost] 150)));have HSP:Hid (S4Box (w1.alloc (.cells #[.int .i64 s.drv,.int .i64 s.pick,.int .i64 s.drop,.int .i64 s.cost] 150)) w1.heap.size s):=Blk.new w1 _ _;obtain⟨W,hW⟩:∃u,w1.alloc (.cells #[.int .i64 s.drv,.int .i64 s.pick,.int .i64 s.drop,.int .i64 s.cost] 150)=u:=⟨_,rfl⟩;obtain⟨gs,hgs⟩:∃g,w1.heap.size=g:=⟨_,rfl⟩;rw[hW]at HS2 HSP ⊢;rw[hgs]at HSP ⊢;clear hW hgs HS1;by_cases he:e=0
 case neg=>
  have e1:(e==0)=false:=by simpa using he
  have HG:Hid (g_n m b o n=(bk0,k,e)):=by show _=_;unfold g_n;rw[HZ.out];simp only;rw[if_pos he]
  obtain⟨y0,y1,y2⟩:=HS2.out.pc.res.cells;have hff:=Blk.free HS2.out.pc.res;have HRS:=Lib.hid (a_i HS2.out.pc.res);have HBR:=Lib.hid (a_r (g:=w.heap.size+2) HS2.out.pc.old (by omega));clear he;go_wp2_with fail
  refine bodyPost_ret (v:=.tuple #[.agg #[.slice none 0 0,.slice none 0 0,.slice none 0 0],.int .i64 k,.int .i64 e]) ?_ rfl (by rw[HG.out];exact⟨bv0,[],rfl,HBR.out,BkR.zero _ _⟩);obtain⟨q0,q1,q2⟩:=HRS.out;simp[results,Tryz.results41,go_sem,q0,q1,q2]
 subst he;obtain⟨p',hp'⟩:∃p,(b_U b.pl o.id ⟨s.drv,s.pick,s.drop⟩).getD []=p:=⟨_,rfl⟩;have HG:Hid (g_n m b o n=(⟨b.ds,b_w b.os o,p'⟩,k,0)):=by show _=_;unfold g_n;rw[HZ.out];simp only;rw[if_neg (by decide),hp']
 obtain⟨c0,c1,c2⟩:=HS2.out.pc.arg.cells;obtain⟨g0,_⟩:=HS2.out.ord.cells;go_wp2_with fail
 refine(plisted_any x b ps o.id _ (by exact HS2.out.pc.read) (by omega) HA.out).mono ?_;rintro e' w3 ⟨rfl,hb3⟩;have HS3:=Lib.hid (HS2.out.next hb3);have HSP3:Hid (S4Box w3 gs s):=Blk.below HSP.out hb3 (Blk.lt HSP.out);clear hb3 HS2 HSP c0 c1 c2 g0;obtain⟨c0,c1,c2⟩:=HS3.out.pc.arg.cells;obtain⟨g0,_⟩:=HS3.out.ord.cells;obtain⟨s0,s1,s2,s3⟩:=HSP3.out.cells;go_wp2_with fail
 refine(j_b x.pl.a x.pl.n x.pl.c ps o.id ⟨s.drv,s.pick,s.drop⟩ s.cost _ (by exact HS3.out.pc.read.pl)).mono ?_;intro e' w4 hw4
 obtain⟨v4,ok4,rfl,hb4,Y4,l4,hY4,hpl4,hrt4⟩:∃v ok,e'=.returned (.tuple #[v,.bool ok])∧Below w3.heap.size w3 w4∧∃(Y:Sl) (l:List RM),v=Y.v∧(NewP w3 w4 Y.v l∧Y.n=l.length∧∀r∈l,r.n*16≤140737488351232)∧l.map (·.rt)=p':=by
  obtain⟨hb,hr⟩:=hw4;rw[HS3.out.pc.bk.rt]at hr;cases hwp:b_U b.pl o.id ⟨s.drv,s.pick,s.drop⟩with
  |none=>
   rw[hwp]at hr hp';exact⟨_,_,hr,hb,sl0,[],rfl,⟨⟨hb,OwnK.nil _ _ _ _,fun r h=>(by cases h)⟩,rfl,fun r h=>(by cases h)⟩,hp'⟩
  |some p4=>
   rw[hwp]at hr hp';obtain⟨v,rfl,l,h1,h2,h3⟩:=hr;obtain⟨A,c,e1,hnc,hpn⟩:=h1.plns h3;subst e1;exact⟨_,_,rfl,hb,⟨A,l.length,c,hnc⟩,l,rfl,⟨h1,rfl,h3⟩,h2.trans hp'⟩
 subst hY4;have HS4:=Lib.hid (HS3.out.next hb4);have hlt3:w.heap.size+2<w3.heap.size:=Blk.lt HS3.out.pc.res;have hw3:w.heap.size≤w3.heap.size:=HS3.out.pc.old.size;have HP4:=Lib.hid hpl4;have HR4:=Lib.hid hrt4;clear hb4 HS3 HSP3 hw4 hpl4 hrt4 hp' c0 c1 c2 g0 s0 s1 s2 s3 HZ HZ0;go_upto_region 6 with fail
 have hi40:atO b.os o.id≤b.os.length:=by unfold atO;exact(List.takeWhile_prefix _).length_le
 have HC1:Hid (∀ u,Below w4.heap.size w4 u→Calls Tryz.prog 94 #[x.os.v] u (fun en u'=>∃v D',en=.returned v∧Below u.heap.size u u'∧(∀ b,D' b→u.heap.size≤b∧b<u'.heap.size)∧rowF w4.heap.size 10 31 b.os.length (a_g b.os) v D' u')):=fun u hu=>by
  have hk:=(HS4.out.next hu).pc.read;refine(g_l x.os.a x.os.n x.os.c b.os u hk.os (by omega)).mono fun en u' hm=>?_;rw[hon];exact k_W hm hu.size
 obtain⟨fs,hfs⟩:∃fs:List FactD,[⟨4,some 8,rowF w4.heap.size 10 31 b.os.length (a_g b.os)⟩,⟨7,some 8,blkF (fun g=>.slice (some ⟨g,0,none⟩) 1 1) 31 (a_g [o])⟩,⟨8,some 10,rowF w4.heap.size 10 31 (b.os.length+1) (putIn (a_g b.os) (atO b.os o.id) 10 (a_g [o]))⟩,⟨10,none,s_R w4.heap.size x.ds Y4 (b.os.length+1) (putIn (a_g b.os) (atO b.os o.id) 10 (a_g [o]))⟩]=fs:=⟨_,rfl⟩;have F4:FactD.of fs 4=some ⟨4,some 8,rowF w4.heap.size 10 31 b.os.length (a_g b.os)⟩:=by rw[← hfs];rfl
 have F7:FactD.of fs 7=some ⟨7,some 8,blkF (fun g=>.slice (some ⟨g,0,none⟩) 1 1) 31 (a_g [o])⟩:=by rw[← hfs];rfl
 have F8:FactD.of fs 8=some ⟨8,some 10,rowF w4.heap.size 10 31 (b.os.length+1) (putIn (a_g b.os) (atO b.os o.id) 10 (a_g [o]))⟩:=by rw[← hfs];rfl
 have F10:FactD.of fs 10=some ⟨10,none,s_R w4.heap.size x.ds Y4 (b.os.length+1) (putIn (a_g b.os) (atO b.os o.id) 10 (a_g [o]))⟩:=by rw[← hfs];rfl
 have FN:∀k,k=0∨k=1∨k=2∨k=3∨k=5∨k=6∨k=9∨k=11→FactD.of fs k=none:=by rw[← hfs];rintro k (rfl|rfl|rfl|rfl|rfl|rfl|rfl|rfl)<;>rfl
 refine g_t 11 (l:=[_,_,_,_,_,_,_,_,_,_,_,_]) (t:=[_,_]) (o:=_) (op:=_) rfl rfl (genRF [53,54,55,56,57,58,59,60,61,62,63,64] [.pointer (some ⟨w.heap.size,0,none⟩),x.ds.v,.pointer (some ⟨w.heap.size,1,none⟩),x.os.v,undef,.int .i64 ((atO b.os o.id:Nat):Int),ordV o,undef,undef,Y4.v,undef,.int .i64 k] fs) (by kernel_rfl) (by kernel_rfl) (by kernel_rfl) (genRF.free (n:=15) (by rw[← hfs];rfl)) (by rw[← hfs];kernel_rfl) (by kernel_rfl) rfl (genRF.mon (by rw[← hfs];intro y hy;simp only[List.mem_cons,List.not_mem_nil,or_false]at hy;rcases hy with rfl|rfl|rfl|rfl<;>first|exact l_S|exact i_g|exact p_I)) ?_ ?_
 ·refine⟨?_,?_,?_,?_,?_,?_,?_,?_,?_,?_,?_,?_,trivial⟩
  ·exact genRF.pureStep rfl 53 rfl rfl (by simp) (FN 0 (by simp)) _ rfl fun listed a u D hI hr hn=>a_H rfl (hI.out 5 (by kernel_rfl)) (by simp[go_sem])
  ·exact genRF.pureStep rfl 54 rfl rfl (by simp) (FN 1 (by simp)) _ rfl fun listed a u D hI hr hn=>a_f rfl (genRF.val hI hr hn 0 (by kernel_rfl) (FN 0 (by simp)) rfl rfl) (h_u (HS4.out.next (a_C hI.old)).pc.arg.cells.1)
  ·exact genRF.pureStep rfl 55 rfl rfl (by simp) (FN 2 (by simp)) _ rfl fun listed a u D hI hr hn=>a_H rfl (hI.out 5 (by kernel_rfl)) (by simp[go_sem])
  ·exact genRF.pureStep rfl 56 rfl rfl (by simp) (FN 3 (by simp)) _ rfl fun listed a u D hI hr hn=>a_f rfl (genRF.val hI hr hn 2 (by kernel_rfl) (FN 2 (by simp)) rfl rfl) (run_load_os (HS4.out.next (a_C hI.old)).pc.arg.cells.2.1)
  ·exact genRF.callF rfl 57 rfl rfl (by simp) F4 fun listed a u D hI hr hn=>⟨_,_,c_m rfl (genRF.val hI hr hn 3 (by kernel_rfl) (FN 3 (by simp)) rfl rfl) (by simp[go_sem]),HC1.out _ (a_C hI.old)⟩
  ·exact genRF.pureStep rfl 58 rfl rfl (by simp) (FN 5 (by simp)) _ rfl fun listed a u D hI hr hn=>a_a (.inl rfl) (hI.out 14 (by kernel_rfl))
  ·exact genRF.pureStep rfl 59 rfl rfl (by simp) (FN 6 (by simp)) _ rfl fun listed a u D hI hr hn=>a_f rfl (hI.out 6 (by kernel_rfl)) (j_e (HS4.out.next (a_C hI.old)).ord)
  ·exact genRF.newF rfl 60 rfl rfl (by simp) F7 (ob:=fun _=>.cells (a_g [o]).toArray 31) (v:=fun g=>.slice (some ⟨g,0,none⟩) 1 1) fun listed a u D hI hr hn=>⟨t_u rfl (genRF.val hI hr hn 6 (by kernel_rfl) (FN 6 (by simp)) rfl rfl),_,rfl,Blk.new _ _ _,fun _=>Iff.rfl⟩
  ·refine RStep.call rfl 61 rfl rfl (by simp) fun listed a u D hI hr hn=>?_
   obtain⟨⟨s4,e4,ho4,hd4⟩,hin4⟩:=genRF.get hI hr hn 4 (by kernel_rfl) F4 (.inr rfl) (s:=57) rfl;obtain⟨⟨gb,e7,hbl,hd7⟩,hin7⟩:=genRF.get hI hr hn 7 (by kernel_rfl) F7 (.inr rfl) (s:=60) rfl;have hfar:=genRF.far hI hr hn 4 7 (by kernel_rfl) (by kernel_rfl) F4 F7 (.inr rfl) (.inr rfl) (by decide);obtain⟨A4,cc4,ea4,hnc4,_⟩:=ho4.read;refine⟨_,_,l_W (x:=.tmp 57) (y:=.tmp 58) (z:=.tmp 60) (v1:=.slice A4 b.os.length cc4) (v2:=.int .i64 ((atO b.os o.id:Nat):Int)) (v3:=.slice (some ⟨gb,0,none⟩) 1 1) rfl ea4 (genRF.val hI hr hn 5 (by kernel_rfl) (FN 5 (by simp)) rfl rfl) e7 (by simp[go_sem]),?_⟩;rw[ea4]at ho4;refine(p_F w4.heap.size b.os.length cc4 (atO b.os o.id) A4 (a_g b.os) (a_g [o]) gb u ho4 (a_C hI.old).size (c_f _) hbl rfl (c_f _) (fun hc=>hfar gb ((hd4 gb).2 (by rw[ea4];exact hc)) ((hd7 gb).2 rfl)) hi40 (by omega)).mono ?_;rintro en u' ⟨v',rfl,ho',hgr,hor⟩;obtain⟨A5,cc5,ea5,hnc5,_⟩:=ho'.read;exact⟨v',fun c=>v'.ownBlock=some c,rfl,r_F (j:=4) hI.old (fun c=>by rw[hd4 c,ea4]) (genRF.eats F4 rfl) ho4 ho' (Nat.le_refl _) hgr hor (genRF.told F8 ⟨⟨A5,_,cc5,hnc5⟩,ea5,ho',fun _=>Iff.rfl⟩)⟩
  ·exact genRF.pureStep rfl 62 rfl rfl (by simp) (FN 9 (by simp)) _ rfl fun listed a u D hI hr hn=>a_a (.inl rfl) (hI.out 16 (by kernel_rfl))
  ·refine genRF.valF rfl 63 rfl rfl (by simp) F10 fun listed a u D hI hr hn=>?_
   obtain⟨⟨s8,e8,ho8,hd8⟩,hin8⟩:=genRF.get hI hr hn 8 (by kernel_rfl) F8 (.inr rfl) (s:=61) rfl;refine⟨bkV ⟨x.ds,s8,Y4⟩,D 8,l_R rfl (genRF.val hI hr hn 1 (by kernel_rfl) (FN 1 (by simp)) rfl rfl) e8 (genRF.val hI hr hn 9 (by kernel_rfl) (FN 9 (by simp)) rfl rfl),fun c hc=>⟨8,genRF.eats F8 rfl,hc⟩,s8,rfl,?_,fun c=>?_⟩
   ·rw[← e8];exact ho8
   ·rw[hd8,e8]
  ·exact genRF.pureStep rfl 64 rfl rfl (by simp) (FN 11 (by simp)) _ rfl fun listed a u D hI hr hn=>a_a (.inl rfl) (hI.out 12 (by kernel_rfl))
 ·intro lt listed a u D hI hall hr hn hlate
  obtain⟨⟨s10,e63,ho10,hd10⟩,hin10⟩:=genRF.get hI hr hn 10 (by kernel_rfl) F10 (.inl rfl) (s:=63) rfl;have e12:a.tmps.getD 12 undef=.int .i64 k:=hI.out 12 (by kernel_rfl)
  have e64:lt=false→a.tmps.getD 64 undef=.int .i64 k:=fun hf=>by
   have h11:=hI.fact 11 ⟨hlate hf,fun k hk=>by simp only[genRF]at hk;rw[FN 11 (by simp)]at hk;cases hk⟩;simp only[genRF]at h11;rw[FN 11 (by simp)]at h11;exact h11.1
  have htz:64<a.tmps.size:=by rw[hI.tsz];simp
  have e8:a.tmps.getD 8 undef=.pointer (some ⟨w.heap.size+2,0,none⟩):=hI.out 8 (by kernel_rfl);have hold:=a_C hI.old;have HS5:=HS4.out.next hold;have hlt:w.heap.size+2<w4.heap.size:=Blk.lt HS4.out.pc.res;have HRS:=Lib.hid (a_t HS5.pc.res ⟨x.ds,s10,Y4⟩);have hput:=a_M u (w.heap.size+2) ⟨x.ds,s10,Y4⟩;have hl:=hI.fill [53,54,55,56,57,58,59,60,61,62,63,64,9,10] (by kernel_rfl)
  have HWK:Hid (Below w.heap.size w (put3 u (w.heap.size+2) x.ds.v s10.v Y4.v)∧BkR (put3 u (w.heap.size+2) x.ds.v s10.v Y4.v) (put3 u (w.heap.size+2) x.ds.v s10.v Y4.v).heap.size ⟨x.ds,s10,Y4⟩ ⟨b.ds,b_w b.os o,p'⟩ l4):=by
   have hb5:Below w.heap.size w (put3 u (w.heap.size+2) x.ds.v s10.v Y4.v):=b_r HS5.pc.old (by omega);have hsz5:w4.heap.size≤(put3 u (w.heap.size+2) x.ds.v s10.v Y4.v).heap.size:=by have h1:=hold.size;have h2:(put3 u (w.heap.size+2) x.ds.v s10.v Y4.v).heap.size=u.heap.size:=hput.size;omega
   refine⟨hb5,Recs.more (Recs.keep HS4.out.pc.bk.ds hb5) hb5.size,?_,?_,HR4.out⟩
   ·have h1:=hput.own ho10 hlt
    have h2:=b_O (n:=0) (s:=s10) h1;rw[j_j]at h2;exact h2.2
   ·obtain⟨h3,h4,h5⟩:=HP4.out
    have hlt3:w.heap.size+2<w3.heap.size:=hlt3;have h6:NewP w (put3 u (w.heap.size+2) x.ds.v s10.v Y4.v) Y4.v l4:=⟨hb5,(hput.own (h3.own.keep hold (Nat.le_refl _)) hlt3).lower hw3,fun r hr=>⟨(hput.own ((h3.each r hr).1.keep hold (Nat.le_refl _)) hlt3).lower hw3,(h3.each r hr).2⟩⟩;obtain⟨A,c,e,_,h7⟩:=h6.plns h5;injection e with e1 e2 _;rw[e1,e2];exact h7
  clear hI hall hr hn hlate HC1 HS4 F4 F7 F8 F10 FN hfs hput hold HP4 HR4 hin10 ho10 hd10;obtain⟨w6,hw6⟩:∃v,g_j u (w.heap.size+2) ⟨x.ds,s10,Y4⟩=v:=⟨_,rfl⟩;have hw7:put3 u (w.heap.size+2) x.ds.v s10.v Y4.v=w6:=hw6;have hst:=c_G HS5.pc.res ⟨x.ds,s10,Y4⟩;rw[hw7]at HRS HWK;rw[hw6]at hst;have HF:Hid (∀ v,v=Value.tuple #[bkV ⟨x.ds,s10,Y4⟩,.int .i64 k,.int .i64 0]→WkOk w (g_n m b o n) (.returned v) w6):=fun v e=>by rw[HG.out,e];exact⟨_,l4,rfl,HWK.out.1,HWK.out.2⟩
  clear HS5 hw6 hw7 HWK;obtain⟨σ,hσ⟩:∃σ:Nat→Value,∀t,a.tmps.getD t undef=σ t:=⟨_,fun _=>rfl⟩;cases lt with
  |false=>
   refine d_P rfl (b_m rfl e8 e63 hst) (c_I (a_a (.inr rfl) (e64 rfl)) (c_I (a_a (.inr rfl) rfl) (f_E ?_)));clear e8 e63 e64 e12 hst htz;simp only[hσ]at hl;clear hσ;simp only[List.foldl_cons,List.foldl_nil,List.setIfInBounds_toArray,List.set_cons_zero,List.set_cons_succ]at hl;subst hl;go_wp2_with fail
   refine bodyPost_ret (v:=.tuple #[bkV ⟨x.ds,s10,Y4⟩,.int .i64 k,.int .i64 0]) ?_ rfl (HF.out _ rfl);obtain⟨r0,r1,r2⟩:=HRS.out;simp[results,Tryz.results41,go_sem,r0,r1,r2]
  |true=>
   refine d_P rfl (b_m rfl e8 e63 hst) (c_I (a_a (.inl rfl) e12) (c_I (a_a (.inr rfl) (l_X htz)) (c_I (a_a (.inr rfl) rfl) (f_E ?_))));clear e8 e63 e64 e12 hst htz;simp only[hσ]at hl;clear hσ;simp only[List.foldl_cons,List.foldl_nil,List.setIfInBounds_toArray,List.set_cons_zero,List.set_cons_succ]at hl;subst hl;go_wp2_with fail
   refine bodyPost_ret (v:=.tuple #[bkV ⟨x.ds,s10,Y4⟩,.int .i64 k,.int .i64 0]) ?_ rfl (HF.out _ rfl);obtain⟨r0,r1,r2⟩:=HRS.out;simp[results,Tryz.results41,go_sem,r0,r1,r2]
end Pln
namespace Pln
structure WL(w:World)(x:Bv)(w1:World)(li lo:List FleetMath.Ord)(vi vo:Value)(u:World):Prop where
 old:Below w.heap.size w u
 ge:w.heap.size≤w1.heap.size
 bel:Below w1.heap.size w1 u
 far:w.heap.size+1<w1.heap.size
 box:BBox u w.heap.size 42 x
 res:BBox u (w.heap.size+1) 42 bv0
 oi:OwnK u w1.heap.size 31 10 vi li.length (a_g li)
 oo:OwnK u w1.heap.size 31 10 vo lo.length (a_g lo)
 two:Two vi vo
section
variable {w w1 u u' : World} {x : Bv} {li lo : List FleetMath.Ord} {vi vo : Value}
theorem WL.next(h:WL w x w1 li lo vi vo u)(hb:Below u.heap.size u u'):WL w x w1 li lo vi vo u':=
 ⟨h.old.trans (hb.mono h.old.size),h.ge,h.bel.trans (hb.mono h.bel.size),h.far,h.box.below hb,h.res.below hb,h.oi.keep hb (Nat.le_refl _),h.oo.keep hb (Nat.le_refl _),h.two⟩
theorem WL.alloc(h:WL w x w1 li lo vi vo u)(ob:Obj):WL w x w1 li lo vi vo (u.alloc ob):=h.next ((Below.refl _ _).alloc (Nat.le_refl _) _)
theorem WL.putIn(h:WL w x w1 li lo vi vo u){v':Value}{o:FleetMath.Ord}(ho:OwnK u' w1.heap.size 31 10 v' (li.length+1) (a_g li++a_g [o]))(hg:u.grownBy u' vi.ownBlock)(hor:v'.ownBlock=vi.ownBlock∨v'.ownBlock=some u.heap.size):WL w x w1 (li++[o]) lo v' vo u':=by
 have hB:Below w1.heap.size u u':=h.oi.below (Below.refl _ u) hg h.bel.size (Nat.le_refl _);have hf:=h.far;refine⟨h.oi.below h.old hg h.old.size h.ge,h.ge,h.bel.trans hB,hf,(hB.block _ (by omega)).trans h.box,(hB.block _ (by omega)).trans h.res,?_,h.oo.other hg fun g h1 h2=>h.two g h2 h1,?_⟩
 ·rw[a_Z,List.length_append];exact ho
 ·exact(Two.grown h.two.symm h.oo hor).symm
theorem WL.putOut(h:WL w x w1 li lo vi vo u){v':Value}{o:FleetMath.Ord}(ho:OwnK u' w1.heap.size 31 10 v' (lo.length+1) (a_g lo++a_g [o]))(hg:u.grownBy u' vo.ownBlock)(hor:v'.ownBlock=vo.ownBlock∨v'.ownBlock=some u.heap.size):WL w x w1 li (lo++[o]) vi v' u':=by
 have hB:Below w1.heap.size u u':=h.oo.below (Below.refl _ u) hg h.bel.size (Nat.le_refl _);have hf:=h.far;refine⟨h.oo.below h.old hg h.old.size h.ge,h.ge,h.bel.trans hB,hf,(hB.block _ (by omega)).trans h.box,(hB.block _ (by omega)).trans h.res,h.oi.other hg fun g h1 h2=>h.two g h1 h2,?_,Two.grown h.two h.oi hor⟩;rw[a_Z,List.length_append];exact ho
end
def WoOk(w:World)(x:Bv)(b:Bk)(l:List Int)(e:Ending)(w':World):Prop:=∃y ps z,e=.returned (.tuple #[bkV y,Sl.v z])∧Below w.heap.size w w'∧BkR w' w'.heap.size y ⟨b.ds,inM b l,a_b b.pl l⟩ ps∧Ords w' w'.heap.size z.a z.n (outM b l)∧y.ds=x.ds∧OwnK w' w.heap.size 31 10 y.os.v (inM b l).length (a_g (inM b l))∧NewP w w' y.pl.v ps∧(∀ r∈ps,r.n*16≤140737488351232)∧OwnK w' w.heap.size 31 10 z.v (outM b l).length (a_g (outM b l))
theorem WL.done{w X w1 u:World}{x:Bv}{li lo:List FleetMath.Ord}{Ai Ao:Option Addr}{ci co:Nat}{hci:li.length≤ci}{hco:lo.length≤co}{b:Bk}{ps lp:List RM}{pl:Sl}{p:List Rte}(h:WL w x w1 li lo (.slice Ai li.length ci) (.slice Ao lo.length co) u)(hx:BkR w w.heap.size x b ps)(hn:NewP X w1 pl.v lp)(hf:∀r∈lp,r.n*16≤140737488351232)(hX:w.heap.size+1<X.heap.size)(hrt:lp.map (·.rt)=p):
 Below w.heap.size w (put3 u (w.heap.size+1) x.ds.v (.slice Ai li.length ci) pl.v)∧BkR (put3 u (w.heap.size+1) x.ds.v (.slice Ai li.length ci) pl.v) (put3 u (w.heap.size+1) x.ds.v (.slice Ai li.length ci) pl.v).heap.size ⟨x.ds,⟨Ai,li.length,ci,hci⟩,pl⟩ ⟨b.ds,li,p⟩ lp∧Ords (put3 u (w.heap.size+1) x.ds.v (.slice Ai li.length ci) pl.v) (put3 u (w.heap.size+1) x.ds.v (.slice Ai li.length ci) pl.v).heap.size Ao lo.length lo∧OwnK (put3 u (w.heap.size+1) x.ds.v (.slice Ai li.length ci) pl.v) w.heap.size 31 10 (.slice Ai li.length ci) li.length (a_g li)∧NewP w (put3 u (w.heap.size+1) x.ds.v (.slice Ai li.length ci) pl.v) pl.v lp∧OwnK (put3 u (w.heap.size+1) x.ds.v (.slice Ai li.length ci) pl.v) w.heap.size 31 10 (.slice Ao lo.length co) lo.length (a_g lo):=by
 have hput:=a_M u (w.heap.size+1) ⟨x.ds,⟨Ai,li.length,ci,hci⟩,pl⟩;have hb5:Below w.heap.size w (put3 u (w.heap.size+1) x.ds.v (.slice Ai li.length ci) pl.v):=b_r h.old (by omega);have hf1:=h.far;have h6:NewP w (put3 u (w.heap.size+1) x.ds.v (.slice Ai li.length ci) pl.v) pl.v lp:=⟨hb5,(hput.own (hn.own.keep h.bel (Nat.le_refl _)) hX).lower (by omega),fun r hr=>⟨(hput.own ((hn.each r hr).1.keep h.bel (Nat.le_refl _)) hX).lower (by omega),(hn.each r hr).2⟩⟩;refine⟨hb5,⟨Recs.more (Recs.keep hx.ds hb5) hb5.size,(b_O (n:=0) (s:=⟨Ai,li.length,ci,hci⟩) (hput.own h.oi hf1)).2,?_,hrt⟩,(b_O (n:=0) (s:=⟨Ao,lo.length,co,hco⟩) (hput.own h.oo hf1)).2,(hput.own h.oi hf1).lower (by omega),h6,(hput.own h.oo hf1).lower (by omega)⟩;obtain⟨A,c,e,_,h7⟩:=h6.plns hf;injection e with e1 e2 _;rw[e1,e2];exact h7
theorem g_o{os:List FleetMath.Ord}{f:FleetMath.Ord→Bool}{k:Nat}{o:FleetMath.Ord}{acc Y:List FleetMath.Ord}(h:Y=acc++(os.drop k).filter f)(hd:os.drop k=o::os.drop (k+1)):(f o=true→Y=(acc++[o])++(os.drop (k+1)).filter f)∧(f o=false→Y=acc++(os.drop (k+1)).filter f):=by
 rw[hd]at h;constructor
 ·intro hf;rw[h,List.filter_cons_of_pos hf,List.append_assoc];rfl
 ·intro hf;rw[h,List.filter_cons_of_neg (by rw[hf];decide)]
theorem j_k(m:Option Mp)(x:Bv)(b:Bk)(ps:List RM)(A2:Option Addr)(m2 c2:Nat)(ids:List Int)(w:World)(hx:BkR w w.heap.size x b ps)(hr:a_q m b=true)(hi:Ints w w.heap.size A2 m2 ids)(hwf:∀z∈ids,(Lit.int .i64 z).wf=true):
 Calls Tryz.prog 47 #[bkV x,.slice A2 m2 c2] w (WoOk w x b ids):=by
 obtain⟨xd,⟨oa,on,oc,ohc⟩,xp⟩:=x;obtain⟨z1,z2,z3,z4,z5⟩:=a_9 hr;have hw1:=l_T z4 hx.rt;have hpn:=hx.pn;have hon:=hx.on;have HX:=Lib.hid hx;have HR:=Lib.hid hr;have HWF:=Lib.hid hwf;have HW1:=Lib.hid hw1;have HI:=Lib.hid hi;have HB0:Hid (Below w.heap.size w ((w.alloc (.cells #[xd.v,.slice oa on oc,xp.v] 42)).alloc (.cells #[.slice none 0 0,.slice none 0 0,.slice none 0 0] 42))):=((Below.refl _ _).alloc (Nat.le_refl _) _).alloc (by simp) _;have HA0:Hid (BBox ((w.alloc (.cells #[xd.v,.slice oa on oc,xp.v] 42)).alloc (.cells #[.slice none 0 0,.slice none 0 0,.slice none 0 0] 42)) w.heap.size 42 (⟨xd,⟨oa,on,oc,ohc⟩,xp⟩:Bv)):=(BBox.new w _ (⟨xd,⟨oa,on,oc,ohc⟩,xp⟩:Bv)).below ((Below.refl _ _).alloc (Nat.le_refl _) _)
 have HE0:Hid (BBox ((w.alloc (.cells #[xd.v,.slice oa on oc,xp.v] 42)).alloc (.cells #[.slice none 0 0,.slice none 0 0,.slice none 0 0] 42)) (w.heap.size+1) 42 bv0):=by
  show BBox _ _ _ _;have:=BBox.new (w.alloc (.cells #[xd.v,.slice oa on oc,xp.v] 42)) 42 bv0;simpa using this
 clear hx hr hi hwf hw1;go_enter Tryz.func47,Tryz.ntmps47;go_upto_region 1 with fail
 obtain⟨X,hX⟩:∃u,((w.alloc (.cells #[xd.v,.slice oa on oc,xp.v] 42)).alloc (.cells #[.slice none 0 0,.slice none 0 0,.slice none 0 0] 42))=u:=⟨_,rfl⟩;try simp only[World.size_alloc,Nat.add_assoc,Nat.reduceAdd]
 rw[hX]at HB0 HA0 HE0 ⊢;clear hX;obtain⟨c0,c1,c2'⟩:=HA0.out.cells;go_wp2_with fail
 refine(c_F xp.a xp.n xp.c ps A2 m2 c2 ids _ (by exact(HX.out.next HB0.out).pl) (by omega) (by exact Reads.more (Reads.keep HI.out HB0.out) HB0.out.size) HW1.out HWF.out).mono ?_;rintro e w1 ⟨v1,rfl,lp,hn1,hp1,hf1⟩;obtain⟨pa,pc,rfl,hpc,hpl1⟩:=hn1.plns hf1;rw[HX.out.rt]at hp1;have HP1:=Lib.hid hp1;have HS0:Hid (WL w ⟨xd,⟨oa,on,oc,ohc⟩,xp⟩ w1 [] [] (.slice none 0 0) (.slice none 0 0) w1):=⟨HB0.out.trans (hn1.old.mono HB0.out.size),Nat.le_trans HB0.out.size hn1.old.size,Below.refl _ _,Nat.lt_of_lt_of_le (Blk.lt HE0.out) hn1.old.size,HA0.out.below hn1.old,HE0.out.below hn1.old,OwnK.nil _ _ _ _,OwnK.nil _ _ _ _,Two.nil _⟩;have HPL:=Lib.hid hpl1;have HNP:=Lib.hid hn1;have HF1:=Lib.hid hf1;have hXs:w.heap.size+1<X.heap.size:=Blk.lt HE0.out;obtain⟨fI,hfI⟩:∃f:FleetMath.Ord→Bool,(fun o=>!(decide (o.id∈ids) && !a_Q b.pl o.id))=f:=⟨_,rfl⟩;obtain⟨fO,hfO⟩:∃f:FleetMath.Ord→Bool,(fun o=>decide (o.id∈ids) && !a_Q b.pl o.id)=f:=⟨_,rfl⟩;have HFI:Hid (∀ o,fI o=!fO o):=Lib.hid fun o=>by rw[← hfI,←hfO]
 have HST:Hid (∀ o,o∈b.os→(b_b (lp.map (·.rt)) o.id).isSome=fI o):=Lib.hid fun o ho=>by rw[HP1.out,r_A HR.out ho,←hfI]
 obtain⟨YI,hYI⟩:∃Y,inM b ids=Y:=⟨_,rfl⟩;obtain⟨YO,hYO⟩:∃Y,outM b ids=Y:=⟨_,rfl⟩;have HGI:Hid (YI=[]++(b.os.drop 0).filter fI):=by show _=_;rw[← hYI,←hfI];rfl
 have HGO:Hid (YO=[]++(b.os.drop 0).filter fO):=by show _=_;rw[← hYO,←hfO];rfl
 have HYI:=Lib.hid hYI;have HYO:=Lib.hid hYO;clear c0 c1 c2' HA0 HE0 HI HWF HW1 hn1 hp1 hpl1 hf1 hfI hfO hYI hYO;obtain⟨k0,k1,k2⟩:=HS0.out.box.cells;replace k1:w1.cell? ⟨w.heap.size,1,none⟩=some (.slice oa on oc):=k1;go_wp2_with fail
 go_loopw [7,8,20] (fun vi vo i wr=>∃(k:Nat) (li lo:List FleetMath.Ord),k≤on∧i=.int .i64 k∧Hid (WL w ⟨xd,⟨oa,on,oc,ohc⟩,xp⟩ w1 li lo vi vo wr)∧Hid (YI=li++(b.os.drop k).filter fI)∧Hid (YO=lo++(b.os.drop k).filter fO)∧Hid (li.length≤k∧lo.length≤k)) (fun _ _ i _=>on-(intOf i).toNat)
 case atStart=>exact⟨0,[],[],Nat.zero_le _,rfl,HS0,HGI,HGO,Lib.hid (by simp)⟩
 case round=>
  clear HS0 HGI HGO k0 k1 k2;obtain⟨k,li,lo,hk,rfl,HS,HGI,HGO,HLN⟩:=hrel;have hoc:=ohc;by_cases hlt:k<on
  case neg=>
   have HEI:Hid (YI=li):=by
    show _=_;have h1:=HGI.out;rw[List.drop_of_length_le (by omega)]at h1;rw[h1];simp
   have HEO:Hid (YO=lo):=by
    show _=_;have h1:=HGO.out;rw[List.drop_of_length_le (by omega)]at h1;rw[h1];simp
   clear HGI HGO;obtain⟨Ai,ci,rfl,hci,_⟩:=HS.out.oi.read;obtain⟨Ao,co,rfl,hco,_⟩:=HS.out.oo.read;have HWK:=Lib.hid (HS.out.done (hci:=hci) (hco:=hco) (pl:=⟨pa,lp.length,pc,hpc⟩) HX.out HNP.out HF1.out hXs HP1.out);obtain⟨k0,k1,k2⟩:=HS.out.box.cells;obtain⟨y0,y1,y2⟩:=HS.out.res.cells;have hff:=Blk.free HS.out.res;have HRS:=Lib.hid (a_t HS.out.res ⟨xd,⟨Ai,li.length,ci,hci⟩,⟨pa,lp.length,pc,hpc⟩⟩)
   have HFN:Hid (WoOk w ⟨xd,⟨oa,on,oc,ohc⟩,xp⟩ b ids (.returned (.tuple #[bkV ⟨xd,⟨Ai,li.length,ci,hci⟩,⟨pa,lp.length,pc,hpc⟩⟩,.slice Ao lo.length co])) (put3 wr (w.heap.size+1) xd.v (.slice Ai li.length ci) (.slice pa lp.length pc))):=by
    refine⟨_,lp,⟨Ao,lo.length,co,hco⟩,rfl,HWK.out.1,?_,?_,rfl,?_,HWK.out.2.2.2.2.1,HF1.out,?_⟩
    ·rw[HYI.out,HEI.out];exact HWK.out.2.1
    ·rw[HYO.out,HEO.out];exact HWK.out.2.2.1
    ·rw[HYI.out,HEI.out];exact HWK.out.2.2.2.1
    ·rw[HYO.out,HEO.out];exact HWK.out.2.2.2.2.2
   clear HWK;go_wp2_with fail
   refine bodyPost_ret (v:=.tuple #[bkV ⟨xd,⟨Ai,li.length,ci,hci⟩,⟨pa,lp.length,pc,hpc⟩⟩,.slice Ao lo.length co]) ?_ rfl HFN.out;obtain⟨q0,q1,q2⟩:=HRS.out;simp[results,Tryz.results47,go_sem,q0,q1,q2]
  obtain⟨ob,off,o,rfl,_,ho,hdr,c0,c1,c2',c3',c4,c5,c6,c7,c8,c9⟩:=Ords.at_ (Recs.keep HX.out.os HS.out.old) hlt;have hmem:o∈b.os:=List.mem_of_getElem? ho;have HNI:=Lib.hid (g_o HGI.out hdr);have HNO:=Lib.hid (g_o HGO.out hdr);obtain⟨fs,hfs⟩:∃s,b_b (lp.map (·.rt)) o.id=s:=⟨_,rfl⟩
  have HFP:Hid (∀ u,Below w1.heap.size w1 u→Calls Tryz.prog 97 #[.slice pa lp.length pc,.int .i64 o.id] u (fun e w'=>e=.returned (d_T fs)∧Below u.heap.size u w')):=fun u hu=>by
   have h1:=d_N pa lp.length pc lp o.id u ((HPL.out.keep hu).more hu.size);rw[hfs]at h1;exact h1
  have HFS:Hid (fs.isSome=fI o):=by show _=_;rw[← hfs];exact HST.out o hmem
  have HS1:=Lib.hid (HS.out.alloc (.cells #[.int .i64 o.id,.int .i64 o.size,.int .i64 o.pick.place,.int .i64 o.pick.win.fr,.int .i64 o.pick.win.to,.int .i64 o.pick.serv,.int .i64 o.drop.place,.int .i64 o.drop.win.fr,.int .i64 o.drop.win.to,.int .i64 o.drop.serv] 31));have HX1:Hid (OBox (wr.alloc (.cells #[.int .i64 o.id,.int .i64 o.size,.int .i64 o.pick.place,.int .i64 o.pick.win.fr,.int .i64 o.pick.win.to,.int .i64 o.pick.serv,.int .i64 o.drop.place,.int .i64 o.drop.win.fr,.int .i64 o.drop.win.to,.int .i64 o.drop.serv] 31)) wr.heap.size o):=Blk.new wr _ _;clear ho hdr hfs HGI HGO hmem;go_wp2_with fail
  refine(HFP.out _ (by exact HS1.out.bel)).mono ?_;rintro e w2 ⟨rfl,hb2⟩;have HS2:=Lib.hid (HS1.out.next hb2);have HX2:=Lib.hid (OBox.below (o:=o) HX1.out hb2);clear hb2 HFP HS HS1 HX1 c0 c1 c2' c3' c4 c5 c6 c7 c8 c9;cases fs with
  |none=>
   have hv:d_T none=.tuple #[.agg #[.int .i64 0,.int .i64 0,.int .i64 0,.int .i64 0],.bool false]:=rfl;rw[hv];clear hv
   have hfo:fO o=true:=by have h1:=HFS.out;have h2:=HFI.out o;rw[h2]at h1;cases h3:fO o with
    |true=>rfl
    |false=>rw[h3]at h1;cases h1
   have HN1:=Lib.hid (HNI.out.2 (by rw[HFI.out o,hfo];rfl));have HN2:=Lib.hid (HNO.out.1 hfo);have HS3:=Lib.hid (HS2.out.alloc (.cells #[.int .i64 0,.int .i64 0,.int .i64 0,.int .i64 0] 150));have HX3:Hid (OBox (w2.alloc (.cells #[.int .i64 0,.int .i64 0,.int .i64 0,.int .i64 0] 150)) wr.heap.size o):=OBox.below (o:=o) HX2.out ((Below.refl _ _).alloc (Nat.le_refl _) _);obtain⟨c0,c1,c2',c3',c4,c5,c6,c7,c8,c9⟩:=OBox.cells (o:=o) HX3.out;have HA:=Lib.hid (HS3.out.alloc (.cells #[.int .i64 o.id,.int .i64 o.size,.int .i64 o.pick.place,.int .i64 o.pick.win.fr,.int .i64 o.pick.win.to,.int .i64 o.pick.serv,.int .i64 o.drop.place,.int .i64 o.drop.win.fr,.int .i64 o.drop.win.to,.int .i64 o.drop.serv] 31))
   have HAB:Hid (Blk ((w2.alloc (.cells #[.int .i64 0,.int .i64 0,.int .i64 0,.int .i64 0] 150)).alloc (.cells #[.int .i64 o.id,.int .i64 o.size,.int .i64 o.pick.place,.int .i64 o.pick.win.fr,.int .i64 o.pick.win.to,.int .i64 o.pick.serv,.int .i64 o.drop.place,.int .i64 o.drop.win.fr,.int .i64 o.drop.win.to,.int .i64 o.drop.serv] 31)) (w2.heap.size+1) 31 (a_g [o])):=by
    have h1:=Blk.new (w2.alloc (.cells #[.int .i64 0,.int .i64 0,.int .i64 0,.int .i64 0] 150)) 31 (a_g [o]);rw[World.size_alloc]at h1;exact h1
   have hlo:lo.length≤64:=by have:=HLN.out.2;omega
   clear HS2 HX2 HNI HNO hfo HS3 HX3;go_wp2_with (at_builtin;refine a_x (o:=⟨some 39,_,_,_,_,_⟩) rfl (.tmp 36) (.tmp 38) Tryz.underlying40 b_R rfl (by decide) rfl HA.out.oo rfl HAB.out rfl rfl (c_f _) (by unfold maxLen;omega) (by omega) HA.out.bel.size ?_;intro vB wB HQ HQG HQN)
   have HR:=Lib.hid (HA.out.putOut HQ.out HQG.out HQN.out);clear HA HQ HQG HQN;go_roundw
   case rel=>exact⟨k+1,li,lo++[o],by omega,by go_num,HR,HN1,HN2,Lib.hid (by have:=HLN.out;simp only[List.length_append,List.length_cons,List.length_nil];omega)⟩
   case measure=>simp[intOf];omega
  |some sp=>
   have hv:d_T (some sp)=.tuple #[.agg #[.int .i64 sp.drv,.int .i64 sp.pick,.int .i64 sp.drop,.int .i64 0],.bool true]:=rfl;rw[hv];clear hv;have hfi:fI o=true:=HFS.out.symm;have HN1:=Lib.hid (HNI.out.1 hfi)
   have HN2:=Lib.hid (HNO.out.2 (by have h2:=HFI.out o;rw[hfi]at h2;cases h3:fO o with
    |true=>rw[h3]at h2;cases h2
    |false=>rfl))
   have HS3:=Lib.hid (HS2.out.alloc (.cells #[.int .i64 sp.drv,.int .i64 sp.pick,.int .i64 sp.drop,.int .i64 0] 150));have HX3:Hid (OBox (w2.alloc (.cells #[.int .i64 sp.drv,.int .i64 sp.pick,.int .i64 sp.drop,.int .i64 0] 150)) wr.heap.size o):=OBox.below (o:=o) HX2.out ((Below.refl _ _).alloc (Nat.le_refl _) _);obtain⟨c0,c1,c2',c3',c4,c5,c6,c7,c8,c9⟩:=OBox.cells (o:=o) HX3.out;have HA:=Lib.hid (HS3.out.alloc (.cells #[.int .i64 o.id,.int .i64 o.size,.int .i64 o.pick.place,.int .i64 o.pick.win.fr,.int .i64 o.pick.win.to,.int .i64 o.pick.serv,.int .i64 o.drop.place,.int .i64 o.drop.win.fr,.int .i64 o.drop.win.to,.int .i64 o.drop.serv] 31))
   have HAB:Hid (Blk ((w2.alloc (.cells #[.int .i64 sp.drv,.int .i64 sp.pick,.int .i64 sp.drop,.int .i64 0] 150)).alloc (.cells #[.int .i64 o.id,.int .i64 o.size,.int .i64 o.pick.place,.int .i64 o.pick.win.fr,.int .i64 o.pick.win.to,.int .i64 o.pick.serv,.int .i64 o.drop.place,.int .i64 o.drop.win.fr,.int .i64 o.drop.win.to,.int .i64 o.drop.serv] 31)) (w2.heap.size+1) 31 (a_g [o])):=by
    have h1:=Blk.new (w2.alloc (.cells #[.int .i64 sp.drv,.int .i64 sp.pick,.int .i64 sp.drop,.int .i64 0] 150)) 31 (a_g [o]);rw[World.size_alloc]at h1;exact h1
   have hli:li.length≤64:=by have:=HLN.out.1;omega
   clear HS2 HX2 HNI HNO hfi HS3 HX3;go_wp2_with (at_builtin;refine a_x (o:=⟨some 35,_,_,_,_,_⟩) rfl (.tmp 32) (.tmp 34) Tryz.underlying40 b_R rfl (by decide) rfl HA.out.oi rfl HAB.out rfl rfl (c_f _) (by unfold maxLen;omega) (by omega) HA.out.bel.size ?_;intro vB wB HQ HQG HQN)
   have HR:=Lib.hid (HA.out.putIn HQ.out HQG.out HQN.out);clear HA HQ HQG HQN;go_roundw
   case rel=>exact⟨k+1,li++[o],lo,by omega,by go_num,HR,HN1,HN2,Lib.hid (by have:=HLN.out;simp only[List.length_append,List.length_cons,List.length_nil];omega)⟩
   case measure=>simp[intOf];omega
end Pln
namespace Pln
theorem p_J{o:Oper}{a:Act}{u:World}{x y z:Operand}{b off n c k:Nat}(ho:o.op=.slice 39 x (some y) (some z) none)(hx:a.eval x=.slice (some ⟨b,off,none⟩) n c)(hy:a.eval y=.int .i64 (k:Int))(hz:a.eval z=.int .i64 ((k+1:Nat):Int))(h2:k<n)(h3:n≤c):
 (execOp a.eval o).run Tryz.prog u=.ok (.value (.slice (some ⟨b,off+k*3,none⟩) 1 (c-k))) u:=by
 have hsz:(sizeOf 37).run Tryz.prog u=.ok 3 u:=by
  obtain⟨i,hi,_,hz,_⟩:=info_parts g_e;simp[sizeOf,typeInfo,hi,hz]
 obtain⟨m,hm⟩:∃m,k+1=m:=⟨_,rfl⟩;rw[hm]at hz;have q1:k≤m:=by omega
 have q2:m≤c:=by omega
 have q3:m-k=1:=by omega
 have q4:¬c=k:=by omega
 have hr:(Instr.sliceAt 39 (.slice (some ⟨b,off,none⟩) n c) (some (.int .i64 (k:Int))) (some (.int .i64 (m:Int))) none).run Tryz.prog u=.ok (.slice (some ⟨b,off+k*3,none⟩) (m-k) (c-k)) u:=by
  simp[Instr.sliceAt,Instr.slice,Instr.sliceBounds,Instr.sliceBound,run_underlying Tryz.underlying39,asIntOf,hsz,q1,q2,q4,Addr.add]
 rw[q3]at hr;unfold execOp;rw[ho];simp only[hx,hy,hz,Option.map_none,Option.map_some,Sem.run_bind,hr,Result.andThen_ok,Sem.run_pure]
theorem r_G{w:World}{B b off n k:Nat}{l:List RM}{r:RM}(h:Plns w B (some ⟨b,off,none⟩) n l)(hr:l[k]?=some r):Plns w B (some ⟨b,off+k*3,none⟩) 1 [r]:=by
 have hl:=h.length;have hlt:k<n:=by rw[← hl];exact(List.getElem?_eq_some_iff.1 hr).1
 obtain⟨b',off',x,e,hb,hx,_,h0,h1,h2,_⟩:=h.at_ hlt;injection e with e;injection e with e1 e2;subst e1;subst e2;rw[hr]at hx;injection hx with hx;subst hx;refine⟨⟨rfl,by decide,fun _=>⟨b,off+k*3,rfl,hb,fun j u hj=>?_⟩⟩,fun y hy=>?_⟩
 ·have e3:rmsV [r]=[.int .i64 r.rt.drv,.int .i64 r.rt.served,.slice r.a r.n r.c]:=rfl
  rw[e3]at hj;match j with
  |0=>simp at hj;rw[← hj];exact h0
  |1=>simp at hj;rw[← hj];exact h1
  |2=>simp at hj;rw[← hj];exact h2
  |j+3=>simp at hj
 ·rw[List.mem_singleton.1 hy];exact h.each r (List.mem_of_getElem? hr)
theorem p_K{α:Type}{p:α→Bool}{l:List α}{y:α}{r:List α}(h:l.dropWhile p=y::r):p y=false:=by
 induction l with
 |nil=>cases h
 |cons x t ih=>
  rw[List.dropWhile_cons]at h;split at h
  ·exact ih h
  ·rename_i hc
   injection h with h1 h2;rw[← h1];simpa using hc
theorem n_r{os:List FleetMath.Ord}{o:FleetMath.Ord}(h:AscO os)(hn:find os o.id=none):AscO (b_w os o):=by
 have hx:=find_none.1 hn;obtain⟨k,hk⟩:∃k,atO os o.id=k:=⟨_,rfl⟩
 have ht:os.take k=os.takeWhile fun x=>decide (x.id<o.id):=by
  rw[← hk];unfold atO;exact(List.prefix_iff_eq_take.1 (List.takeWhile_prefix _)).symm
 have hd:os.drop k=os.dropWhile fun x=>decide (x.id<o.id):=by
  have h1:=List.take_append_drop k os;have h2:=List.takeWhile_append_dropWhile (p:=fun x:FleetMath.Ord=>decide (x.id<o.id)) (l:=os);rw[ht]at h1;exact List.append_cancel_left (h1.trans h2.symm)
 have hlo:∀x∈os.take k,x.id<o.id:=fun x hm=>by
  rw[ht]at hm;have:=List.all_eq_true.1 (List.all_takeWhile (p:=fun x:FleetMath.Ord=>decide (x.id<o.id)) (l:=os)) x hm;simpa using this
 have hall:(os.drop k).Pairwise fun a b=>a.id<b.id:=List.Pairwise.sublist (List.drop_sublist k os) h
 have hhi:∀x∈os.drop k,o.id<x.id:=fun x hm=>by
  have hne:=hx x (List.mem_of_mem_drop hm);cases hdk:os.drop k with
  |nil=>rw[hdk]at hm;cases hm
  |cons y r=>
   have hy:¬y.id<o.id:=by
    have h4:(os.dropWhile fun x:FleetMath.Ord=>decide (x.id<o.id))=y::r:=by rw[← hd,hdk]
    have h3:=p_K h4;simpa using h3
   rw[hdk]at hm hall;have hne':=hne;rcases List.mem_cons.1 hm with rfl|hm'
   ·omega
   ·have:=(List.pairwise_cons.1 hall).1 x hm'
    omega
 unfold b_w AscO;rw[hk,List.pairwise_append];refine⟨List.Pairwise.sublist (List.take_sublist k os) h,List.pairwise_cons.2 ⟨hhi,hall⟩,fun a ha b hb=>?_⟩;have h1:=hlo a ha;rcases List.mem_cons.1 hb with rfl|hb
 ·exact h1
 ·have:=hhi b hb
  omega
theorem n_s{os:List FleetMath.Ord}{o:FleetMath.Ord}:(b_w os o).length=os.length+1:=by
 unfold b_w;have:=List.take_append_drop (atO os o.id) os;rw[List.length_append,List.length_cons,List.length_take,List.length_drop];omega
theorem e_E{u u':World}{D g n k:Nat}{A:Option Addr}{vs:List Value}{t:TypeId}{cs:List Value}(h:Recs u D A n k vs)(ho:Only g u u')(hb:Blk u g t cs)(hx:0<n→∀off:Nat,∃(j:Nat) (v:Value),vs[j]?=some v∧cs[off+j]?≠some v):Recs u' D A n k vs:=by
 obtain⟨h1,h2,h3⟩:=h;refine⟨h1,h2,fun hn=>?_⟩;obtain⟨b,off,e,hlt,hc⟩:=h3 hn
 have hne:b≠g:=by
  intro e2;subst e2;obtain⟨j,v,hj,hjn⟩:=hx hn off;have h4:=hc j v hj;refine hjn ?_;have h5:u.heap[b]?=some (.cells cs.toArray t (0,0)):=hb;simpa[World.cell?,h5]using h4
 refine⟨b,off,e,hlt,fun j v hj=>?_⟩;have h4:=hc j v hj;have h5:=ho.other b hne;unfold World.cell? at h4 ⊢;rw[h5];exact h4
theorem i_f{x:Bv}{off:Nat}{z:Int}:([x.ds.v,x.os.v,x.pl.v]:List Value)[off]?≠some (.int .i64 z):=by
 match off with
 |0=>simp
 |1=>simp
 |2=>simp
 |off+3=>simp
section
variable {u u' : World} {D g n : Nat} {A : Option Addr} {t : TypeId} {z : Bv}
theorem p_L{l:List Drv}(h:Drvs u D A n l)(ho:Only g u u')(hb:BBox u g t z):Drvs u' D A n l:=by
 refine e_E h ho hb fun hn off=>?_;have hl:=Drvs.length h;cases l with
 |nil=>simp at hl;omega
 |cons x r=>exact⟨0,.int .i64 x.id,rfl,i_f⟩
theorem g_p{l:List FleetMath.Ord}(h:Ords u D A n l)(ho:Only g u u')(hb:BBox u g t z):Ords u' D A n l:=by
 refine e_E h ho hb fun hn off=>?_;have hl:=Ords.length h;cases l with
 |nil=>simp at hl;omega
 |cons x r=>exact⟨0,.int .i64 x.id,rfl,i_f⟩
theorem p_M{l:List Stp}(h:Stps u D A n l)(ho:Only g u u')(hb:BBox u g t z):Stps u' D A n l:=by
 refine e_E h ho hb fun hn off=>?_;have hl:=Stps.length h;cases l with
 |nil=>simp at hl;omega
 |cons x r=>exact⟨0,.int .i64 x.ord,rfl,i_f⟩
theorem p_N{l:List RM}(h:Plns u D A n l)(ho:Only g u u')(hb:BBox u g t z):Plns u' D A n l:=by
 refine⟨e_E h.rows ho hb fun hn off=>?_,fun r hr=>⟨p_M (h.each r hr).1 ho hb,(h.each r hr).2⟩⟩;have hl:=h.length;cases l with
 |nil=>simp at hl;omega
 |cons x r=>exact⟨0,.int .i64 x.rt.drv,rfl,i_f⟩
theorem BkR.only{x:Bv}{b:Bk}{ps:List RM}(h:BkR u D x b ps)(ho:Only g u u')(hb:BBox u g t z):BkR u' D x b ps:=⟨p_L h.ds ho hb,g_p h.os ho hb,p_N h.pl ho hb,h.rt⟩
end
def noF(v:Value)(D:Nat→Prop)(u:World):Prop:=∀b,¬D b
theorem p_O:MonF noF:=fun _ _ _ _ h _=>h
def woF(base:Nat)(x:Bv)(b:Bk)(ids:List Int)(v:Value)(D:Nat→Prop)(u:World):Prop:=
 ∃(y:Bv) (l:List RM) (z:Sl),v=.tuple #[bkV y,z.v]∧y.ds=x.ds∧OwnK u base 31 10 y.os.v (inM b ids).length (a_g (inM b ids))∧OwnK u base 37 3 y.pl.v l.length (rmsV l)∧(∀ r∈l,OwnK u base 48 2 r.v r.n (a_D r.rt.stops)∧Two r.v y.pl.v)∧l.map (·.rt)=a_b b.pl ids∧(∀ r∈l,r.n*16≤140737488351232)∧OwnK u base 31 10 z.v (outM b ids).length (a_g (outM b ids))∧∀c,(y.os.v.ownBlock=some c∨y.pl.v.ownBlock=some c∨(∃ r∈l,r.v.ownBlock=some c)∨z.v.ownBlock=some c)→D c
theorem s_S{base:Nat}{x:Bv}{b:Bk}{ids:List Int}:MonF (woF base x b ids):=by
 rintro v D u u' ⟨y,l,z,e,h0,h1,h2,h3,h4,h5,h6,hd⟩ hk;exact⟨y,l,z,e,h0,b_P h1 fun c hc=>hk c (hd c (.inl hc)),b_P h2 fun c hc=>hk c (hd c (.inr (.inl hc))),fun r hr=>⟨b_P (h3 r hr).1 fun c hc=>hk c (hd c (.inr (.inr (.inl ⟨r,hr,hc⟩)))),(h3 r hr).2⟩,h4,h5,b_P h6 fun c hc=>hk c (hd c (.inr (.inr (.inr hc)))),hd⟩
theorem t_x{u u':World}{base:Nat}{x:Bv}{b:Bk}{ids:List Int}{en:Ending}(h:WoOk u x b ids en u')(hb:base≤u.heap.size):∃v D',en=.returned v∧Below u.heap.size u u'∧(∀ c,D' c→u.heap.size≤c∧c<u'.heap.size)∧woF base x b ids v D' u':=by
 obtain⟨y,l,z,rfl,h1,h2,_,h0,h3,h4,h5,h6⟩:=h;refine⟨_,fun c=>u.heap.size≤c∧c<u'.heap.size,rfl,h1,fun c hc=>hc,y,l,z,rfl,h0,h3.lower hb,h4.own.lower hb,fun r hr=>⟨(h4.each r hr).1.lower hb,(h4.each r hr).2⟩,h2.rt,h5,h6.lower hb,?_⟩;rintro c (hc|hc|⟨r,hr,hc⟩|hc)
 ·exact a_8 h3 hc
 ·exact a_8 h4.own hc
 ·exact a_8 (h4.each r hr).1 hc
 ·exact a_8 h6 hc
theorem r_H{w u u':World}{base g:Nat}{x y':Bv}{b:Bk}{ids:List Int}{y:Bv}{z:Sl}{l:List RM}(h0:y.ds=x.ds)(h1:OwnK u base 31 10 y.os.v (inM b ids).length (a_g (inM b ids)))(h2:OwnK u base 37 3 y.pl.v l.length (rmsV l))(h3:∀r∈l,OwnK u base 48 2 r.v r.n (a_D r.rt.stops)∧Two r.v y.pl.v)(h4:l.map (·.rt)=a_b b.pl ids)(h5:∀r∈l,r.n*16≤140737488351232)(h6:OwnK u base 31 10 z.v (outM b ids).length (a_g (outM b ids)))
 (ho:Only g u u') (hn:∀c,(y.os.v.ownBlock=some c∨y.pl.v.ownBlock=some c∨(∃ r∈l,r.v.ownBlock=some c)∨z.v.ownBlock=some c)→c≠g) (hb:Below w.heap.size w u') (hw:w.heap.size≤base) (hx:Drvs w w.heap.size x.ds.a x.ds.n b.ds):
 BkR u' u'.heap.size y ⟨b.ds,inM b ids,a_b b.pl ids⟩ l∧Ords u' u'.heap.size z.a z.n (outM b ids):=by
 have st:∀{k n:Nat} {e:TypeId} {v:Value} {vs:List Value},OwnK u base e k v n vs→(∀ c,v.ownBlock=some c→c≠g)→OwnK u' base e k v n vs:=fun h hc=>b_P h fun c e=>ho.other c (hc c e);have h7:NewP w u' y.pl.v l:=⟨hb,(st h2 fun c e=>hn c (.inr (.inl e))).lower hw,fun r hr=>⟨(st (h3 r hr).1 fun c e=>hn c (.inr (.inr (.inl ⟨r,hr,e⟩)))).lower hw,(h3 r hr).2⟩⟩;refine⟨⟨by rw[h0];exact Recs.more (Recs.keep hx hb) hb.size,(b_O (n:=0) (st h1 fun c e=>hn c (.inl e))).2,?_,h4⟩,(b_O (n:=0) (st h6 fun c e=>hn c (.inr (.inr (.inr e))))).2⟩;obtain⟨A,c,e,_,h8⟩:=h7.plns h5;injection e with e1 e2 _;rw[e1,e2];exact h8
abbrev extF(k:Nat)(v:Value):Value:=match v with
 | .tuple vs=>vs.getD k undef
 |_=>undef
section
variable {P : Program} {ops : Array Oper} {w0 : World} {a0 : Act} {listed : Array Bool} {a : Act} {u : World} {D : Nat → Nat → Prop} {slots : List Nat} {vals : List Value} {fs : List FactD}
theorem g_q(h:RInv ops (genRF slots vals fs) w0 a0 listed a u D)(j:Nat)(hl:listed.getD j false=true){x:FactD}(hx:FactD.of fs j=some x)(he:x.eat=none){s:Nat}(hs:slots.getD j 0=s):d_U (genRF slots vals fs) listed j∧x.fact (a.tmps.getD s undef) (D j) u∧∀b,D j b→w0.heap.size≤b∧b<u.heap.size:=by
 have hlv:d_U (genRF slots vals fs) listed j:=⟨hl,fun k hk=>by simp only[genRF]at hk;rw[hx]at hk;rw[Option.bind_some,he]at hk;cases hk⟩;have h4:=h.fact j hlv;simp only[genRF]at h4;rw[hx,hs]at h4;exact⟨hlv,h4,fun b hb=>h.inn j b hlv hb⟩
end
end Pln
end Go.Proofs.YtkpnmpjnpcjohaaGreat
