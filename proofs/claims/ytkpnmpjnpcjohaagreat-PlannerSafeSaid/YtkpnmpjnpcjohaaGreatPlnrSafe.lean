import Derived.Test.YtkpnmpjnpcjohaaGreatJoined14
import Derived.Test.YtkpnmpjnpcjohaaGreatPlnrDo
import Derived.Deep.MidRow
set_option linter.unusedSimpArgs false
set_option linter.unusedVariables false
set_option maxHeartbeats 16000000
set_option maxRecDepth 100000
namespace Go.Proofs.YtkpnmpjnpcjohaaGreat
open ChangeShapes WideShapes ChangeAt RowKit Mem GeoMath FleetMath PlanMath CertMath AuditMath InsertMath RepairMath PlannerMath Rec Geo Span Deal Keep Plan Cert Audit
namespace Pln
def asksV(l:List Ask):List Value:=l.flatMap askC
theorem p_U(l:List Ask):(asksV l).length=l.length*19:=by
 induction l with
 |nil=>rfl
 |cons a r ih=>
  have e:asksV (a::r)=askC a++asksV r:=rfl;have hl:(askC a).length=19:=rfl;have h2:(a::r).length=r.length+1:=rfl;rw[e,List.length_append,ih,hl,h2];omega
theorem r_L{l:List Ask}{i:Nat}{a:Ask}(h:l[i]?=some a)(j:Nat)(v:Value)(hj:(askC a)[j]?=some v):(asksV l)[i*19+j]?=some v:=by
 induction l generalizing i with
 |nil=>cases h
 |cons x r ih=>
  have e:asksV (x::r)=askC x++asksV r:=rfl;have hl:(askC x).length=19:=rfl;cases i with
  |zero=>
   simp at h;subst h;have hlt:=(List.getElem?_eq_some_iff.1 hj).1;rw[e,Nat.zero_mul,Nat.zero_add,List.getElem?_append_left (by omega)];exact hj
  |succ i=>
   rw[e,List.getElem?_append_right (by rw[hl];omega),hl,show(i+1)*19+j-19=i*19+j by omega];exact ih (by simpa using h)
theorem s_U{m:Option Mp}{b x:Bk}{a:Ask}{n e:Int}(h:doM m b a=(x,n,e))(hr:a_q m b=true):(e≠0∧x=bk0∧n=0)∨(e=0∧a_q m x=true∧(a.kind≠5→b_S b.pl x.pl=true)):=by
 have safe:∀{r:Bk×Int},PlannerMath.Safe m b r.1 r.2→(r.1,(0:Int),r.2)=(x,n,e)→(e≠0∧x=bk0∧n=0)∨(e=0∧a_q m x=true∧(a.kind≠5→b_S b.pl x.pl=true)):=by
  rintro r hs h;injection h with h1 h2;injection h2 with h2 h3;subst h1;subst h2;subst h3;rcases hs with⟨h4,h5,h6⟩|⟨h4,h5⟩
  ·exact .inr ⟨h4,h5,fun _=>h6⟩
  ·exact .inl ⟨h4,h5,rfl⟩
 unfold doM at h;split at h
 ·exact safe (n_i rfl) h
 split at h
 ·exact safe (p_n rfl) h
 split at h
 ·exact safe (p_o rfl) h
 split at h
 ·exact safe (k_R rfl) h
 split at h
 ·rename_i h5
  rcases n_k (m:=m) (b:=b) (i:=a.id) (c:=a.n) rfl with⟨h6,h7⟩|⟨h6,h7⟩
  ·injection h with h1 h2
   injection h2 with h2 h3;subst h1;subst h2;subst h3;exact .inr ⟨h6,h7,fun hc=>absurd h5 hc⟩
  ·injection h with h1 h2
   injection h2 with h2 h3;subst h1;subst h2;subst h3;exact .inl ⟨h6,h7,rfl⟩
 split at h
 ·obtain⟨hs,hk⟩:=p_q h
  rcases hs with⟨h4,h5,h6⟩|⟨h4,h5⟩
  ·exact .inr ⟨h4,h5,fun _=>h6⟩
  ·exact .inl ⟨h4,h5,hk h4⟩
 ·injection h with h1 h2
  injection h2 with h2 h3;subst h1;subst h2;subst h3;exact .inl ⟨by decide,rfl,rfl⟩
def doF(base:Nat)(r:Bk×Int×Int)(v:Value)(D:Nat→Prop)(u:World):Prop:=∃y:Bv,v=.tuple #[bkV y,.int .i64 r.2.1,.int .i64 r.2.2]∧∃D',g_T base r.1 (bkV y) D' u∧∀c,D' c→D c
theorem s_V{base:Nat}{r:Bk×Int×Int}:MonF (doF base r):=by
 rintro v D u u' ⟨y,e,D',h,hd⟩ hk;exact⟨y,e,D',e_C _ _ _ _ h fun c hc=>hk c (hd c hc),hd⟩
def p_V(r:Bk×Int×Int)(v:Value)(D:Nat→Prop)(u:World):Prop:=(∃ yv,v=.tuple #[yv,.int .i64 r.2.1,.int .i64 r.2.2])∧∀c,¬D c
theorem n_t{r:Bk×Int×Int}:MonF (p_V r):=fun _ _ _ _ h _=>h
def boxF(base:Nat)(b:Bk)(v:Value)(D:Nat→Prop)(u:World):Prop:=∃(g:Nat) (y:Bv),v=.pointer (some ⟨g,0,none⟩)∧BBox u g 42 y∧D g∧∃D',g_T base b (bkV y) D' u∧∀c,D' c→D c
theorem r_M{base:Nat}{b:Bk}:MonF (boxF base b):=by
 rintro v D u u' ⟨g,y,e,hb,hg,D',h,hd⟩ hk;exact⟨g,y,e,(hk g hg).trans hb,hg,D',e_C _ _ _ _ h fun c hc=>hk c (hd c hc),hd⟩
theorem p_W{ops:Array Oper}{w0:World}{a0:Act}{listed:Array Bool}{a:Act}{u:World}{D:Nat→Nat→Prop}{slots:List Nat}{vals:List Value}{fs:List FactD}{i j:Nat}(h:RInv ops (genRF slots vals fs) w0 a0 listed a u D)(hl:listed.getD j false=true){x:FactD}(hx:FactD.of fs j=some x)(he:x.eat=some i)(hn:listed.getD i false=false):d_U (genRF slots vals fs) listed j:=
 ⟨hl,fun k hk=>by
   simp only[genRF]at hk;rw[hx,Option.bind_some,he]at hk;injection hk with hk;rw[← hk];exact hn⟩
theorem s_W{x y:Bv}(h:bkV x=bkV y):x=y:=by
 obtain⟨⟨a1,n1,c1,h1⟩,⟨a2,n2,c2,h2⟩,⟨a3,n3,c3,h3⟩⟩:=x;obtain⟨⟨b1,m1,d1,k1⟩,⟨b2,m2,d2,k2⟩,⟨b3,m3,d3,k3⟩⟩:=y;simp[bkV,Sl.v]at h;obtain⟨⟨rfl,rfl,rfl⟩,⟨rfl,rfl,rfl⟩,⟨rfl,rfl,rfl⟩⟩:=h;rfl
theorem RStepD.store{P:Program}{ops:Array Oper}{Q:Exit→Act→World→Prop}{R:RF}{ds:List DerD}{w0:World}{a0:Act}{i:Nat}{o:Oper}(hg:o.guard=none)(hd:o.dst=none)(hno:(ds.all fun p=>!(p.at_==i))=true)
 (h:∀listed a u D,RInv ops R w0 a0 listed a u D→DerE ds listed a→(∀ e∈o.after,Region.binds .any e=true→listed.getD e.on false=true)→listed.getD i false=false→∃u' D',(execOp a.eval o).run P u=.ok .skip u'∧RPostV R w0 i u D (a.tmps.getD (R.slot i) undef) u' D'):RStepD P ops Q R ds w0 a0 i o:=by
 intro listed a u D hI hE hr hn K hK;obtain⟨u',D',h1,h2⟩:=h listed a u D hI hE hr hn;rw[if_pos (by simp[Region.wanted,hg])];unfold Oper.wp;rw[h1];refine hK undef u' D' ?_ fun p hp e=>?_
 ·unfold k_G
  rw[hd];exact h2
 ·have:=List.all_eq_true.1 hno p hp
  simp[e]at this
theorem s_X{o:Oper}{a:Act}{u:World}{x y:Operand}{b off n c k:Nat}(h:o.op=.indexAddr 70 x y)(hx:a.eval x=.slice (some ⟨b,off,none⟩) n c)(hy:a.eval y=.int .i64 k)(hk:k<n)(hn:n≤9223372036854775807):
 (execOp a.eval o).run Tryz.prog u=.ok (.value (.pointer (some ⟨b,off+k*19,none⟩))) u:=by
 obtain⟨ρ,hρ⟩:∃ρ,a.eval=ρ:=⟨_,rfl⟩;rw[hρ]at hx hy ⊢;have hk1:(k:Int)<(n:Int):=by omega
 unfold execOp;rw[h];simp[go_sem,hx,hy,hk1]
theorem s_Y{u:World}{b off:Nat}{a:Ask}(h:∀j v,(askC a)[j]?=some v→u.cell? ⟨b,off+j,none⟩=some v):(Instr.loadAt 74 (.pointer (some ⟨b,off,none⟩))).run Tryz.prog u=.ok (askV a) u:=
 run_loadAt_mid u b off _ (askC a) _ h Tryz.underlying74 rfl (by kernel_rfl)
theorem j_t{u:World}{B n:Nat}{A:Option Addr}{l:List Ask}{k:Nat}{a:Ask}(h:Recs u B A n 19 (asksV l))(ha:l[k]?=some a)(hk:k<n):∃b off,A=some ⟨b,off,none⟩∧b<B∧∀j v,(askC a)[j]?=some v→u.cell? ⟨b,off+k*19+j,none⟩=some v:=by
 obtain⟨b,off,e,hb,hc⟩:=h.2.2 (by omega);exact⟨b,off,e,hb,fun j v hj=>by rw[Nat.add_assoc];exact hc _ v (r_L ha j v hj)⟩
structure SL(w4:World)(gb:Nat)(z:Bv)(bk:Bk)(lz:List RM)(u:World):Prop where
 bel:Below w4.heap.size w4 u
 box:BBox u gb 42 z
 bk:BkR u u.heap.size z bk lz
theorem SL.next{w4 u u':World}{gb:Nat}{z:Bv}{bk:Bk}{lz:List RM}(h:SL w4 gb z bk lz u)(hb:Below u.heap.size u u'):SL w4 gb z bk lz u':=⟨h.bel.trans (hb.mono h.bel.size),h.box.below hb,h.bk.next hb⟩
theorem SL.put{w4 u:World}{gb:Nat}{z y:Bv}{bk bk':Bk}{lz ly:List RM}(h:SL w4 gb z bk lz u)(hg:w4.heap.size≤gb)(hy:BkR u u.heap.size y bk' ly):SL w4 gb y bk' ly (put3 u gb y.ds.v y.os.v y.pl.v):=by
 have ho:=a_M u gb y;have hs:(put3 u gb y.ds.v y.os.v y.pl.v).heap.size=u.heap.size:=ho.size;refine⟨b_r h.bel hg,c_z h.box y,?_⟩;rw[hs];exact hy.only ho h.box
abbrev ask6:Ask:=⟨6,0,0,⟨0,0,⟨0,⟨0,0⟩,0⟩,⟨0,⟨0,0⟩,0⟩⟩,⟨0,0,0,⟨0,0⟩,false⟩⟩
theorem plannerSafe_walk(x:Wd)(A:Option Addr)(n c:Nat)(l:List Ask)(ts:List Int)(ds:List Drv)(os:List FleetMath.Ord)(ps:List RM)(W:World)(hts:Ints W W.heap.size x.ts.a x.ts.n ts)(hds:Drvs W W.heap.size x.ds.a x.ds.n ds)(hos:Ords W W.heap.size x.os.a x.os.n os)(hps:Plns W W.heap.size x.pl.a x.pl.n ps)
 (hal:Recs W W.heap.size A n 19 (asksV l)) (hnc:n≤c) (hwf:∀a∈l,(Lit.int .i64 a.id).wf=true):
 Calls Tryz.prog 7 #[wdV x,.slice A n c] W fun e w'=>e=.returned (.bool true)∧Below W.heap.size W w':=by
 have hln:l.length=n:=by have:=hal.1;rw[p_U]at this;omega
 have hm64:n≤9223372036854775807:=hal.le;have HLN:=Lib.hid hln;have HAL:=Lib.hid hal;have HWF:=Lib.hid hwf;have HTS:=Lib.hid hts;have HDS:=Lib.hid hds;have HOS:=Lib.hid hos;have HPS:=Lib.hid hps;clear hts hds hos hps hal hwf hln;obtain⟨m,hm⟩:∃m,f_r x.n ts=m:=⟨_,rfl⟩;have HM:=Lib.hid hm;clear hm;have HB0:Hid (Below W.heap.size W (W.alloc (.cells #[.int .i64 x.n,x.ts.v,x.ds.v,x.os.v,x.pl.v] 55))):=(Below.refl _ _).alloc (Nat.le_refl _) _;have HW0:=Lib.hid (WBox.new W x);go_enter Tryz.func7,Tryz.ntmps7;go_wp2_with fail
 refine(i_R x ts _ (by exact Reads.more (Reads.keep HTS.out HB0.out) HB0.out.size)).mono ?_;intro e w1 hmo;obtain⟨qq,r,rfl,hcr⟩:=CR.start (n0:=0) HB0.out HW0.out HDS.out HOS.out HPS.out HM.out hmo;have C1:=Lib.hid hcr;clear hmo hcr HB0 HW0;obtain⟨x0,x1,x2,x3,x4⟩:=C1.out.wd.cells;go_wp2_with fail
 refine(h_r x ps _ (by exact C1.out.plns)).mono ?_;rintro e w2 ⟨he,hb2⟩;have C2:=Lib.hid (C1.out.below hb2);clear hb2 C1 x0 x1 x2 x3 x4;rcases he with rfl|rfl
 case inl=>
  go_wp2_with fail
  refine(b_B _).mono ?_;rintro e wd ⟨rfl,hbd⟩;have CD:=Lib.hid (C2.out.below hbd);clear hbd;go_wp2_with fail
  go_ret;exact⟨by first|rfl|(simp;done),CD.out.old⟩
 obtain⟨x0,x1,x2,x3,x4⟩:=C2.out.wd.cells;go_wp2_with fail
 refine(i_S x _).mono ?_;rintro e w4 ⟨rfl,hb4⟩;have C4:=Lib.hid (C2.out.below hb4);have b5:Below w4.heap.size w4 (w4.alloc (.cells #[x.ds.v,x.os.v,x.pl.v] 42)):=(Below.refl _ _).alloc (Nat.le_refl _) _;have H5:Hid (SL w4 w4.heap.size (bvW x) (bkW ds os ps) ps (w4.alloc (.cells #[x.ds.v,x.os.v,x.pl.v] 42))):=⟨b5,BBox.new w4 42 (bvW x),(CR.book C4.out).next b5⟩;clear hb4 b5 C2 x0 x1 x2 x3 x4;go_upto_region 5 with fail
 obtain⟨W5,hW5⟩:∃u,w4.alloc (.cells #[x.ds.v,x.os.v,x.pl.v] 42)=u:=⟨_,rfl⟩;obtain⟨gb,hgb⟩:∃g,w4.heap.size=g:=⟨_,rfl⟩;rw[hW5]at H5;rw[hW5]
 replace H5:Hid (SL w4 gb (bvW x) (bkW ds os ps) ps W5):=by
  have hx:=H5.out.box;rw[hgb]at hx;exact⟨H5.out.bel,hx,H5.out.bk⟩
 try rw[hgb]
 have HGB:Hid (w4.heap.size≤gb):=Nat.le_of_eq hgb;clear hW5 hgb;obtain⟨c0,c1,c2⟩:=H5.out.box.cells;obtain⟨r1,hr1⟩:∃r,a_q m (bkW ds os ps)=r:=⟨_,rfl⟩;have HR1:=Lib.hid hr1;go_wp2_with fail
 refine(pright_any W.heap.size qq m (bvW x) (bkW ds os ps) ps r1 _ (by exact(C4.out.map.keep H5.out.bel)) (by exact H5.out.bk) hr1).mono ?_;rintro e w6 ⟨rfl,hb6⟩;have H6:=Lib.hid (H5.out.next hb6);clear hb6 hr1 H5 c0 c1 c2;cases r1 with
 |false=>
  obtain⟨c0,c1,c2⟩:=H6.out.box.cells
  have HD:Hid (doM m (bkW ds os ps) ask6=(bk0,0,1)):=by
   show c_N m (bkW ds os ps) 0=_;unfold c_N;rw[if_pos (.inl HR1.out)]
  go_wp2_with fail
  refine(p_H W.heap.size qq m (bvW x) (bkW ds os ps) ps ask6 _ (by exact(C4.out.map.keep H6.out.bel)) (by exact H6.out.bk) (by decide)).mono ?_;rintro e w7 ⟨y,py,rfl,hn7⟩;rw[HD.out];have hb78:Below w6.heap.size w6 (w7.alloc (.cells #[y.ds.v,y.os.v,y.pl.v] 42)):=hn7.old.trans (((Below.refl _ _).alloc (Nat.le_refl _) _).mono hn7.old.size);have C8:=Lib.hid (C4.out.below (H6.out.next hb78).bel);clear hb78 hn7 c0 c1 c2 H6 HD;go_wp2_with fail
  refine(b_B _).mono ?_;rintro e wd ⟨rfl,hbd⟩;have CD:=Lib.hid (C8.out.below hbd);clear hbd;go_wp2_with fail
  go_ret;exact⟨by first|rfl|(simp;done),CD.out.old⟩
 |true=>
 go_upto_region 8 with fail
 go_wp2_with fail
 go_loopw [12] (fun iv wr=>∃(k:Nat) (z:Bv) (bk:Bk) (lz:List RM),iv=.int .i64 k∧k≤n∧k≤14∧Hid (SL w4 gb z bk lz wr)∧Hid (a_q m bk=true)) (fun iv _=>14-(intOf iv).toNat)
 case atStart=>exact⟨0,bvW x,bkW ds os ps,ps,rfl,Nat.zero_le _,Nat.zero_le _,H6,HR1⟩
 case round=>
  clear H6 HR1;obtain⟨k,z,bk,lz,rfl,hkn,hk14,HS,HRB⟩:=hrel;by_cases hlt:k<n∧k<14
  case neg=>
   by_cases hkn2:k<n
   ·have hk2:¬k<14:=fun h=>hlt ⟨hkn2,h⟩
    clear hlt;go_wp2_with fail
    refine(b_B _).mono ?_;rintro e wd ⟨rfl,hbd⟩;have CD:=Lib.hid ((C4.out.below HS.out.bel).below hbd);clear hbd;go_wp2_with fail
    go_ret;exact⟨by first|rfl|(simp;done),CD.out.old⟩
   ·clear hlt
    go_wp2_with fail
    refine(b_B _).mono ?_;rintro e wd ⟨rfl,hbd⟩;have CD:=Lib.hid ((C4.out.below HS.out.bel).below hbd);clear hbd;go_wp2_with fail
    go_ret;exact⟨by first|rfl|(simp;done),CD.out.old⟩
  obtain⟨hk1,hk2⟩:=hlt;obtain⟨ak,ha⟩:∃a,l[k]?=some a:=⟨_,List.getElem?_eq_getElem (by rw[HLN.out];exact hk1)⟩;obtain⟨⟨nb,yk,ye⟩,hD⟩:∃r,doM m bk ak=r:=⟨_,rfl⟩;have HDS2:=Lib.hid (s_U hD HRB.out);have HD:=Lib.hid hD;have HAW:Hid ((Lit.int .i64 ak.id).wf=true):=HWF.out ak (List.mem_of_getElem? ha);obtain⟨ab,aoff,hA,_,hac⟩:=j_t HAL.out ha hk1
  have HCA:Hid (∀ u,Below w4.heap.size w4 u→∀j v,(askC ak)[j]?=some v→u.cell? ⟨ab,aoff+k*19+j,none⟩=some v):=Lib.hid fun u hu=>by
   obtain⟨ab',aoff',hA',_,hac'⟩:=j_t (Recs.keep HAL.out (C4.out.below hu).old) ha hk1;rw[hA]at hA';injection hA' with hA';injection hA' with e1 e2;subst e1;subst e2;exact hac'
  subst hA;clear hac hD ha;go_upto_region 11 with fail
  have hmk:=HS.out
  have HDO:Hid (∀ u,Below wr.heap.size wr u→Calls Tryz.prog 27 #[.pointer qq,bkV z,askV ak] u (fun en u'=>∃v D',en=.returned v∧Below u.heap.size u u'∧(∀ c,D' c→u.heap.size≤c∧c<u'.heap.size)∧doF wr.heap.size (nb,yk,ye) v D' u')):=fun u hu=>by
   have h1:=HS.out.next hu;refine(p_H W.heap.size qq m z bk lz ak u (C4.out.map.keep h1.bel) h1.bk HAW.out).mono ?_;rintro en u' ⟨y,py,rfl,hn⟩;rw[HD.out]at hn ⊢;refine⟨_,fun c=>u.heap.size≤c∧c<u'.heap.size,rfl,hn.old,fun c hc=>hc,y,rfl,fun c=>y.ds.v.ownBlock=some c∨y.os.v.ownBlock=some c∨y.pl.v.ownBlock=some c∨∃r∈py,r.v.ownBlock=some c,⟨y,py,rfl,hn.ds.lower hu.size,hn.os.lower hu.size,hn.pl.own.lower hu.size,fun r hr=>⟨(hn.pl.each r hr).1.lower hu.size,(hn.pl.each r hr).2⟩,hn.rt,hn.fits,hn.two,fun _=>Iff.rfl⟩,?_⟩;rintro c (hc|hc|hc|⟨r,hr,hc⟩)
   ·exact a_8 hn.ds hc
   ·exact a_8 hn.os hc
   ·exact a_8 hn.pl.own hc
   ·exact a_8 (hn.pl.each r hr).1 hc
  clear hmk;obtain⟨fs,hfs⟩:∃fs:List FactD,[⟨6,some 12,doF wr.heap.size (nb,yk,ye)⟩,⟨7,none,p_V (nb,yk,ye)⟩,⟨8,none,noF⟩,⟨11,some 12,blkF (fun g=>.pointer (some ⟨g,0,none⟩)) 42 [.slice none 0 0,.slice none 0 0,.slice none 0 0]⟩,⟨12,none,boxF wr.heap.size nb⟩]=fs:=⟨_,rfl⟩;have F6:FactD.of fs 6=some ⟨6,some 12,doF wr.heap.size (nb,yk,ye)⟩:=by rw[← hfs];rfl
  have F7:FactD.of fs 7=some ⟨7,none,p_V (nb,yk,ye)⟩:=by rw[← hfs];rfl
  have F8:FactD.of fs 8=some ⟨8,none,noF⟩:=by rw[← hfs];rfl
  have F11:FactD.of fs 11=some ⟨11,some 12,blkF (fun g=>.pointer (some ⟨g,0,none⟩)) 42 [.slice none 0 0,.slice none 0 0,.slice none 0 0]⟩:=by rw[← hfs];rfl
  have F12:FactD.of fs 12=some ⟨12,none,boxF wr.heap.size nb⟩:=by rw[← hfs];rfl
  have FN:∀k,k=0∨k=1∨k=2∨k=3∨k=4∨k=5∨k=9∨k=10∨k=13→FactD.of fs k=none:=by rw[← hfs];rintro k (rfl|rfl|rfl|rfl|rfl|rfl|rfl|rfl|rfl)<;>rfl
  have hwk:k≤14:=hk14;refine d_E 0 [⟨7,62,69,fun v=>v⟩,⟨8,70,62,extF 0⟩] (l:=[_,_,_,_,_,_,_,_,_,_,_,_,_,_]) (t:=[]) (o:=_) (op:=_) rfl rfl (genRF [63,64,65,66,67,68,69,62,70,71,72,13,13,14] [.pointer qq,bkV z,.slice (some ⟨ab,aoff,none⟩) n c,.int .i64 (k:Int),.pointer (some ⟨ab,aoff+k*19,none⟩),askV ak,undef,undef,undef,.int .i64 yk,.int .i64 ye,undef,undef,.int .i64 yk] fs) (by kernel_rfl) (by kernel_rfl) (by kernel_rfl) (genRF.free (n:=15) (by rw[← hfs];rfl)) (by rw[← hfs];kernel_rfl) (by kernel_rfl) rfl (genRF.mon (by rw[← hfs];intro y hy;simp only[List.mem_cons,List.not_mem_nil,or_false]at hy;rcases hy with rfl|rfl|rfl|rfl|rfl<;>first|exact s_V|exact n_t|exact p_O|exact i_g|exact r_M)) (by kernel_rfl) (by intro y hy;simp only[List.mem_cons,List.not_mem_nil,or_false]at hy;rcases hy with rfl|rfl<;>simp) ?_ ?_
  ·refine⟨?_,?_,?_,?_,?_,?_,?_,?_,?_,?_,?_,?_,?_,?_,trivial⟩
   ·exact RStep.plainD (by kernel_rfl) (genRF.pureStep rfl 63 rfl rfl (by simp) (FN 0 (by simp)) _ rfl fun listed a u D hI hr hn=>a_a (.inl rfl) (hI.out 5 (by kernel_rfl)))
   ·exact RStep.plainD (by kernel_rfl) (genRF.pureStep rfl 64 rfl rfl (by simp) (FN 1 (by simp)) _ rfl fun listed a u D hI hr hn=>a_f rfl (hI.out 8 (by kernel_rfl)) (g_i (HS.out.next (a_C hI.old)).box))
   ·exact RStep.plainD (by kernel_rfl) (genRF.pureStep rfl 65 rfl rfl (by simp) (FN 2 (by simp)) _ rfl fun listed a u D hI hr hn=>a_a (.inl rfl) (hI.out 1 (by kernel_rfl)))
   ·exact RStep.plainD (by kernel_rfl) (genRF.pureStep rfl 66 rfl rfl (by simp) (FN 3 (by simp)) _ rfl fun listed a u D hI hr hn=>a_a (.inl rfl) (hI.out 12 (by kernel_rfl)))
   ·exact RStep.plainD (by kernel_rfl) (genRF.pureStep rfl 67 rfl rfl (by simp) (FN 4 (by simp)) _ rfl fun listed a u D hI hr hn=>s_X rfl (genRF.val hI hr hn 2 (by kernel_rfl) (FN 2 (by simp)) rfl rfl) (genRF.val hI hr hn 3 (by kernel_rfl) (FN 3 (by simp)) rfl rfl) hk1 hm64)
   ·exact RStep.plainD (by kernel_rfl) (genRF.pureStep rfl 68 rfl rfl (by simp) (FN 5 (by simp)) _ rfl fun listed a u D hI hr hn=>a_f rfl (genRF.val hI hr hn 4 (by kernel_rfl) (FN 4 (by simp)) rfl rfl) (s_Y (HCA.out _ (HS.out.next (a_C hI.old)).bel)))
   ·exact RStep.plainD (by kernel_rfl) (genRF.callF rfl 69 rfl rfl (by simp) F6 fun listed a u D hI hr hn=>⟨_,_,l_W rfl (genRF.val hI hr hn 0 (by kernel_rfl) (FN 0 (by simp)) rfl rfl) (genRF.val hI hr hn 1 (by kernel_rfl) (FN 1 (by simp)) rfl rfl) (genRF.val hI hr hn 5 (by kernel_rfl) (FN 5 (by simp)) rfl rfl) (by simp[go_sem]),HDO.out _ (a_C hI.old)⟩)
   ·refine RStepD.val rfl 62 rfl rfl (by simp) fun listed a u D hI hE hr hn=>?_
    have h6:listed.getD 6 false=true:=by obtain⟨e,he,e1,e2⟩:=a_4 (o:=_) (j:=6) (show depB _ 6=true by kernel_rfl);rw[← e1];exact hr e he e2
    have h4:=hI.fact 6 ⟨h6,fun j hj=>by
     simp only[genRF]at hj;rw[F6]at hj;injection hj with hj;subst hj;cases h12:listed.getD 12 false with
     |false=>rfl
     |true=>
      obtain⟨e,he,e1,e2⟩:=a_4 (j:=7) (show depB _ 7=true by kernel_rfl);have:=hI.down 12 _ rfl h12 e he e2;rw[e1,hn]at this;cases this⟩
    simp only[genRF]at h4;rw[F6]at h4;obtain⟨y,ev,_⟩:=h4;refine⟨a.tmps.getD 69 undef,a_a (.inl rfl) rfl,genRF.told F7 ⟨⟨bkV y,ev⟩,fun b hb=>hb⟩,?_⟩;intro p hp e;simp only[List.mem_cons,List.not_mem_nil,or_false]at hp;rcases hp with rfl|rfl
    ·rfl
    ·cases e
   ·refine RStepD.val rfl 70 rfl rfl (by simp) fun listed a u D hI hE hr hn=>?_
    obtain⟨⟨⟨yv,e62⟩,_⟩,_⟩:=genRF.get hI hr hn 7 (by kernel_rfl) F7 (.inl rfl) (s:=62) rfl;refine⟨yv,exec_extract rfl e62 rfl,genRF.told F8 (fun b hb=>hb),?_⟩;intro p hp e;simp only[List.mem_cons,List.not_mem_nil,or_false]at hp;rcases hp with rfl|rfl
    ·cases e
    ·simp only[e62];rfl
   ·refine RStep.plainD (by kernel_rfl) (genRF.pureStep rfl 71 rfl rfl (by simp) (FN 9 (by simp)) _ rfl fun listed a u D hI hr hn=>?_)
    obtain⟨⟨⟨yv,e62⟩,_⟩,_⟩:=genRF.get hI hr hn 7 (by kernel_rfl) F7 (.inl rfl) (s:=62) rfl;exact exec_extract rfl e62 rfl
   ·refine RStep.plainD (by kernel_rfl) (genRF.pureStep rfl 72 rfl rfl (by simp) (FN 10 (by simp)) _ rfl fun listed a u D hI hr hn=>?_)
    obtain⟨⟨⟨yv,e62⟩,_⟩,_⟩:=genRF.get hI hr hn 7 (by kernel_rfl) F7 (.inl rfl) (s:=62) rfl;exact exec_extract rfl e62 rfl
   ·exact RStep.plainD (by kernel_rfl) (genRF.newF rfl 13 rfl rfl (by simp) F11 (ob:=fun _=>.cells #[.slice none 0 0,.slice none 0 0,.slice none 0 0] 42) (v:=fun g=>.pointer (some ⟨g,0,none⟩)) fun listed a u D hI hr hn=>⟨g_s rfl,_,rfl,Blk.new _ _ _,fun _=>Iff.rfl⟩)
   ·refine RStepD.store rfl rfl (by kernel_rfl) fun listed a u D hI hE hr hn=>?_
    have h8:listed.getD 8 false=true:=by obtain⟨e,he,e1,e2⟩:=a_4 (o:=_) (j:=8) (show depB _ 8=true by kernel_rfl);rw[← e1];exact hr e he e2
    have h7:listed.getD 7 false=true:=by obtain⟨e,he,e1,e2⟩:=a_4 (j:=7) (show depB _ 7=true by kernel_rfl);rw[← e1];exact hI.down 8 _ rfl h8 e he e2
    have h6:listed.getD 6 false=true:=by obtain⟨e,he,e1,e2⟩:=a_4 (j:=6) (show depB _ 6=true by kernel_rfl);rw[← e1];exact hI.down 7 _ rfl h7 e he e2
    have lv6:=p_W hI h6 F6 rfl hn;have w6:=hI.fact 6 lv6;simp only[genRF]at w6;rw[F6]at w6;obtain⟨y,e69,D6',hbk,hd6⟩:=w6;obtain⟨⟨g,e13,hbl,hd11⟩,hin11⟩:=genRF.get hI hr hn 11 (by kernel_rfl) F11 (.inr rfl) (s:=13) rfl;have e62:a.tmps.getD 62 undef=a.tmps.getD 69 undef:=hE ⟨7,62,69,fun v=>v⟩ (by simp) h7;have e70:a.tmps.getD 70 undef=bkV y:=by rw[hE ⟨8,70,62,extF 0⟩ (by simp) h8,e62];exact congrArg (extF 0) e69
    have hbx:BBox u g 42 bv0:=hbl;have hpo:=a_M u g y;have hgw:=(hin11 g ((hd11 g).2 rfl));have lv11:=p_W hI (by obtain⟨e,he,e1,e2⟩:=a_4 (o:=_) (j:=11) (show depB _ 11=true by kernel_rfl);rw[← e1];exact hr e he e2) F11 rfl hn;have hne:∀c,D 6 c→c≠g:=fun c hc e=>hI.dis 6 11 c (by decide) lv6 lv11 hc ((hd11 c).2 e);refine⟨_,fun c=>D 6 c∨c=g,b_m rfl e13 e70 (c_G hbx y),g_m hI.old hgw.1,Nat.le_of_eq hpo.size.symm,fun c hc hno=>hpo.other c fun e=>hno 11 (genRF.eats F11 rfl) ((hd11 c).2 e),?_,genRF.told F12 ⟨g,y,e13,c_z hbx y,.inr rfl,D6',?_,fun c hc=>.inl (hd6 c hc)⟩⟩
    ·rintro c (hc|hc)
     ·exact .inl ⟨6,genRF.eats F6 rfl,hc⟩
     ·exact .inl ⟨11,genRF.eats F11 rfl,(hd11 c).2 hc⟩
    ·exact e_C _ _ _ _ hbk fun c hc=>hpo.other c (hne c (hd6 c hc))
   ·exact RStep.plainD (by kernel_rfl) (genRF.pureStep rfl 14 rfl rfl (by simp) (FN 13 (by simp)) _ rfl fun listed a u D hI hr hn=>a_a (.inr rfl) (genRF.val hI hr hn 9 (by kernel_rfl) (FN 9 (by simp)) rfl rfl))
  ·intro lt listed a u D hI hE hall hr hn hlate hlate2
   have h0:listed.getD 0 false=true:=by obtain⟨e,he,e1,e2⟩:=a_4 (o:=_) (j:=0) (show depB _ 0=true by kernel_rfl);rw[← e1];exact hr e he e2
   have hlt0:lt=false:=by
    cases lt with
    |false=>rfl
    |true=>have:=hlate2 rfl;rw[h0]at this;cases this
   subst hlt0;obtain⟨_,⟨g13,y,e13,hbx,_,D',hbk,_⟩,_⟩:=g_q hI 12 (hall 12 (by simp) (by decide)) F12 rfl (s:=13) rfl;have e72:a.tmps.getD 72 undef=.int .i64 ye:=genRF.val hI hr hn 10 (by kernel_rfl) (FN 10 (by simp)) rfl rfl;have e14:a.tmps.getD 14 undef=.int .i64 yk:=genRF.val hI hr hn 13 (by kernel_rfl) (FN 13 (by simp)) rfl rfl;have hold:=a_C hI.old
   obtain⟨py,hny⟩:∃py,BkN wr u y nb py:=by
    obtain⟨y',py,ey,hn⟩:=j_f hbk hold (Nat.le_refl _);rw[s_W ey];exact⟨py,hn⟩
   have hl:=hI.fill [63,64,65,66,67,68,69,62,70,71,72,13,14,15] (by kernel_rfl);refine c_I (t:=[]) (a_a (.inr rfl) e72) (f_E ?_);have HSU:=Lib.hid (HS.out.next hold);have HNY:=Lib.hid hny;have HBX:=Lib.hid hbx;have hg13:wr.heap.size≤g13∨True:=.inr trivial;clear hI hE hall hr hn hlate hlate2 h0 HDO F6 F7 F8 F11 F12 FN hfs hold hny hbx hbk e72;obtain⟨σ,hσ⟩:∃σ:Nat→Value,∀t,a.tmps.getD t undef=σ t:=⟨_,fun _=>rfl⟩;simp only[hσ]at hl e13 e14;clear hσ;simp only[List.foldl_cons,List.foldl_nil,List.setIfInBounds_toArray,List.set_cons_zero,List.set_cons_succ,e13,e14]at hl;subst hl;clear e13 e14 HS HD;obtain⟨n0,n1,n2⟩:=HBX.out.cells;by_cases hye:ye=0
   case neg=>
    have e1:(ye==0)=false:=by simpa using hye
    obtain⟨hnb,hyk⟩:nb=bk0∧yk=0:=by
     rcases HDS2.out with⟨_,h1,h2⟩|⟨h1,_⟩
     ·exact⟨h1,h2⟩
     ·exact absurd h1 hye
    subst hnb;subst hyk;have q1:y.ds.n=0:=(b_O (n:=0) HNY.out.ds).1;have q2:y.os.n=0:=(b_O (n:=0) HNY.out.os).1;have q3:y.pl.n=0:=by have h1:=HNY.out.rt;have h2:=HNY.out.read.pl.length;have h3:py=[]:=List.map_eq_nil_iff.1 h1;rw[h3]at h2;exact h2.symm
    clear hye HDS2;go_wp2_with fail
    go_roundw
    case rel=>exact⟨k+1,z,bk,lz,by go_num,by omega,by omega,HSU,HRB⟩
    case measure=>simp[intOf];omega
   subst hye
   obtain⟨hrn,hkp⟩:a_q m nb=true∧(ak.kind≠5→b_S bk.pl nb.pl=true):=by
    rcases HDS2.out with⟨h1,_⟩|⟨_,h1,h2⟩
    ·exact absurd rfl h1
    ·exact⟨h1,h2⟩
   have HRN:=Lib.hid hrn;have HKP:=Lib.hid hkp;have HAU:Hid (c_a m nb.ds nb.os (py.map (·.rt))=[]):=by show _=_;rw[HNY.out.rt];exact(rightB_iff.1 hrn).1
   clear hrn hkp HDS2;go_wp2_with fail
   refine(pright_any W.heap.size qq m y nb py true _ (by exact(C4.out.map.keep HSU.out.bel)) (by exact HNY.out.read) HRN.out).mono ?_;rintro e u1 ⟨rfl,hb1⟩;have HS1:=Lib.hid (HSU.out.next hb1);have HB1:=Lib.hid (HBX.out.below hb1);have HK1:=Lib.hid (HNY.out.read.next hb1);clear hb1 HSU HBX HNY n0 n1 n2;obtain⟨n0,n1,n2⟩:=HB1.out.cells;go_wp2_with fail
   refine(h_b W.heap.size qq m y.ds.a y.ds.n y.ds.c nb.ds y.os.a y.os.n y.os.c nb.os y.pl.a y.pl.n y.pl.c py _ y.ds.h y.os.h y.pl.h (by exact(C4.out.map.keep HS1.out.bel)) (by exact HK1.out.ds) (by exact HK1.out.os) (by exact HK1.out.pl)).mono ?_;rintro e u2 ⟨va,rfl,hb2,hoa⟩;rw[HAU.out]at hoa;obtain⟨Aa,ca,rfl,_,_⟩:=hoa.read;have HS2:=Lib.hid (HS1.out.next hb2);have HB2:=Lib.hid (HB1.out.below hb2);have HK2:=Lib.hid (HK1.out.next hb2);clear hb2 hoa HS1 HB1 HK1 n0 n1 n2 HAU;obtain⟨n0,n1,n2⟩:=HB2.out.cells;obtain⟨b0,b1,b2⟩:=HS2.out.box.cells;have kc:u2.cell? ⟨ab,aoff+k*19,none⟩=some (.int .i64 ak.kind):=HCA.out u2 HS2.out.bel 0 _ rfl;by_cases h5:ak.kind=5
   ·rw[h5]at kc
    have HR3:=Lib.hid (HS2.out.put HGB.out HK2.out);have hff:=Blk.free HS2.out.box;clear HS2 HB2 HK2 HKP HCA HAW h5;go_wp2_with fail
    go_roundw
    case rel=>exact⟨k+1,y,nb,py,by go_num,by omega,by omega,HR3,HRN⟩
    case measure=>simp[intOf];omega
   ·have e5:(ak.kind != 5)=true:=by simp[h5]
    have HKK:Hid (b_S (lz.map (·.rt)) (py.map (·.rt))=true):=by show _=_;rw[HS2.out.bk.rt,HK2.out.rt];exact HKP.out h5
    clear h5 HKP;go_wp2_with fail
    refine(i_y z.pl.a z.pl.n z.pl.c lz y.pl.a y.pl.n y.pl.c py true _ z.pl.h y.pl.h (by exact HS2.out.bk.pl) (by exact HK2.out.pl) HKK.out).mono ?_;rintro e u3 ⟨rfl,hb3⟩;have HS3:=Lib.hid (HS2.out.next hb3);have HB3:=Lib.hid (HB2.out.below hb3);have HK3:=Lib.hid (HK2.out.next hb3);have HR3:=Lib.hid (HS3.out.put HGB.out HK3.out);clear hb3 HS2 HB2 HK2 n0 n1 n2 b0 b1 b2 kc HKK;obtain⟨n0,n1,n2⟩:=HB3.out.cells;obtain⟨b0,b1,b2⟩:=HS3.out.box.cells;have hff:=Blk.free HS3.out.box;clear HS3 HB3 HK3 HCA HAW;go_wp2_with fail
    go_roundw
    case rel=>exact⟨k+1,y,nb,py,by go_num,by omega,by omega,HR3,HRN⟩
    case measure=>simp[intOf];omega
end Pln
end Go.Proofs.YtkpnmpjnpcjohaaGreat
