import Derived.Test.YtkpnmpjnpcjohaaGreatJoined09
set_option linter.unusedSimpArgs false
set_option linter.unusedVariables false
set_option maxHeartbeats 16000000
set_option maxRecDepth 100000
namespace Go.Proofs.YtkpnmpjnpcjohaaGreat
open ChangeShapes WideShapes ChangeAt RowKit Mem MemI GeoMath FleetMath PlanMath CertMath AuditMath InsertMath RepairMath PlannerMath Rec Geo Span Deal Keep Plan Cert Audit
namespace Pln
theorem t_z{l:List Rte}(h:∀r∈l,r.stops.length≤80):(allS l).length≤l.length*80:=by
 induction l with
 |nil=>simp[allS]
 |cons x r ih=>
  have e:allS (x::r)=x.stops++allS r:=by simp[allS]
  have h1:=h x (by simp);have h2:=ih fun q hq=>h q (by simp[hq]);rw[e,List.length_append,List.length_cons];omega
theorem l_Z{l:List Rte}(h:a_h l=true):(allS l).length*8≤140737488351232:=by
 have h1:=t_z (l:=l) fun r hr=>f_k h hr;have h2:l.length≤8:=by unfold a_h at h;simp only[Bool.and_eq_true,decide_eq_true_eq]at h;exact h.1.1.1
 omega
theorem r_J{w w':World}{d:Nat}(h:w'=w.drewN d):Below w.heap.size w w':=by rw[h];exact a_l (Below.refl _ _) _
section
variable {o : Oper} {a : Act} {u : World} {x y : Operand}
theorem j_s{b c r:Bool}(h:o.op=.pick x y (.const (.bool false)))(hp:a.eval x=.bool b)(hy:a.eval y=.bool c)(hr:(b && c)=r):(execOp a.eval o).run Tryz.prog u=.ok (.value (.bool r)) u:=by
 have hc:a.eval (.const (.bool false))=.bool false:=rfl;obtain⟨ρ,hρ⟩:∃ρ,a.eval=ρ:=⟨_,rfl⟩;rw[hρ]at hp hy hc ⊢;unfold execOp;rw[h,←hr];cases b<;>simp[go_sem,hp,hy,hc]
theorem s_f{p q:Int}{T:TypeId}{r:Bool}(h:o.op=.binOp .leq 3 x y T)(hp:a.eval x=.int .i64 p)(hq:a.eval y=.int .i64 q)(hr:decide (p≤q)=r):(execOp a.eval o).run Tryz.prog u=.ok (.value (.bool r)) u:=by
 obtain⟨ρ,hρ⟩:∃ρ,a.eval=ρ:=⟨_,rfl⟩;rw[hρ]at hp hq ⊢;unfold execOp;rw[h,←hr];simp[go_sem,hp,hq]
theorem t_A{p q:Int}{t T:TypeId}{r:Bool}(ht:t=23)(h:o.op=.binOp .eql t x y T)(hp:a.eval x=.int .i64 p)(hq:a.eval y=.int .i64 q)(hr:(p==q)=r):(execOp a.eval o).run Tryz.prog u=.ok (.value (.bool r)) u:=by
 obtain⟨ρ,hρ⟩:∃ρ,a.eval=ρ:=⟨_,rfl⟩;rw[hρ]at hp hq ⊢;subst ht;unfold execOp;rw[h,←hr];simp[go_sem,hp,hq]
theorem r_K{P:Program}{f:Nat}{ts:Array TypeId}(h:o.op=.call {callee:=.value (.func f),args:=#[],argTypes:=ts })(hf:(callFunc f #[]).run P u=.ok (.enter f #[]) u):(execOp a.eval o).run P u=.ok (.enter f #[]) u:=by
 have hf':a.eval (.func f)=.func (.func f) #[] #[]:=rfl;obtain⟨ρ,hρ⟩:∃ρ,a.eval=ρ:=⟨_,rfl⟩;rw[hρ]at hf' ⊢;unfold execOp;rw[h];simp[go_sem,hf',hf]
end
theorem e_Y(x:Wd)(b:Int)(ts:List Int)(ds:List Drv)(os:List FleetMath.Ord)(ps:List RM)(W:World)(hts:Ints W W.heap.size x.ts.a x.ts.n ts)(hds:Drvs W W.heap.size x.ds.a x.ds.n ds)(hos:Ords W W.heap.size x.os.a x.os.n os)(hps:Plns W W.heap.size x.pl.a x.pl.n ps):
 Calls Tryz.prog 9 #[wdV x,.int .i64 b] W fun e w'=>e=.returned (.bool true)∧Below W.heap.size W w':=by
 have HTS:=Lib.hid hts;have HDS:=Lib.hid hds;have HOS:=Lib.hid hos;have HPS:=Lib.hid hps;clear hts hds hos hps;obtain⟨m,hm⟩:∃m,f_r x.n ts=m:=⟨_,rfl⟩;have HM:=Lib.hid hm;clear hm;have HB0:Hid (Below W.heap.size W (W.alloc (.cells #[.int .i64 x.n,x.ts.v,x.ds.v,x.os.v,x.pl.v] 55))):=(Below.refl _ _).alloc (Nat.le_refl _) _;have HW0:=Lib.hid (WBox.new W x);go_enter Tryz.func9,Tryz.ntmps9;go_wp2_with fail
 refine(i_R x ts _ (by exact Reads.more (Reads.keep HTS.out HB0.out) HB0.out.size)).mono ?_;intro e w1 hmo;obtain⟨qq,r,rfl,hcr⟩:=CR.start (n0:=0) HB0.out HW0.out HDS.out HOS.out HPS.out HM.out hmo;have C1:=Lib.hid hcr;clear hmo hcr HB0 HW0;obtain⟨x0,x1,x2,x3,x4⟩:=C1.out.wd.cells;go_wp2_with fail
 refine(h_r x ps _ (by exact C1.out.plns)).mono ?_;rintro e w2 ⟨he,hb2⟩;have C2:=Lib.hid (C1.out.below hb2);clear hb2 C1 x0 x1 x2 x3 x4;rcases he with rfl|rfl
 case inl=>
  go_wp2_with fail
  refine(b_B _).mono ?_;rintro e wd ⟨rfl,hbd⟩;have CD:=Lib.hid (C2.out.below hbd);clear hbd;go_wp2_with fail
  go_ret;exact⟨by first|rfl|(simp;done),CD.out.old⟩
 go_wp2_with fail
 refine(k_A W.heap.size qq m _ (by exact C2.out.map)).mono ?_;rintro e w3 ⟨q,cm,rfl,hb3,hmp3,hq0,hq1⟩;have C3:=Lib.hid (C2.out.below hb3);have HMP3:Hid (MapP w3 92 W.heap.size (.pointer q) cm):=hmp3.lower C2.out.old.size;have HQ0:=Lib.hid hq0;clear hb3 hmp3 hq0 hq1 C2;obtain⟨x0,x1,x2,x3,x4⟩:=C3.out.wd.cells;go_wp2_with fail
 refine(i_S x _).mono ?_;rintro e w4 ⟨rfl,hb4⟩;have b5:Below w4.heap.size w4 (w4.alloc (.cells #[x.ds.v,x.os.v,x.pl.v] 42)):=(Below.refl _ _).alloc (Nat.le_refl _) _;have C5:=Lib.hid ((C3.out.below hb4).below b5);have HMP5:=Lib.hid (HMP3.out.keep (hb4.trans (b5.mono hb4.size)));have HX5:=Lib.hid (BBox.new w4 42 (bvW x));clear hb4 b5 C3 HMP3 x0 x1 x2 x3 x4;go_upto_region 6 with fail
 obtain⟨W5,hW5⟩:∃u,w4.alloc (.cells #[x.ds.v,x.os.v,x.pl.v] 42)=u:=⟨_,rfl⟩;obtain⟨gb,hgb⟩:∃g,w4.heap.size=g:=⟨_,rfl⟩;replace HX5:Hid (BBox (w4.alloc (.cells #[x.ds.v,x.os.v,x.pl.v] 42)) w4.heap.size 42 (bvW x)):=HX5;rw[hW5]at C5 HMP5 HX5;rw[hW5];rw[hgb]at HX5;try rw[hgb]
 clear hW5 hgb;cases q with
 |none=>
  go_wp2_with fail
  refine(b_B _).mono ?_;rintro e wd ⟨rfl,hbd⟩;have CD:=Lib.hid (C5.out.below hbd);clear hbd;go_wp2_with fail
  go_ret;exact⟨by first|rfl|(simp;done),CD.out.old⟩
 |some qa=>
 obtain⟨c0,c1,c2⟩:=HX5.out.cells;obtain⟨r1,hr1⟩:∃r,a_q cm (bkW ds os ps)=r:=⟨_,rfl⟩;have HR1:=Lib.hid hr1;go_wp2_with fail
 refine(pright_any W.heap.size (some qa) cm (bvW x) (bkW ds os ps) ps r1 _ (by exact HMP5.out) (by exact CR.book C5.out) hr1).mono ?_;rintro e w6 ⟨rfl,hb6⟩;have C6:=Lib.hid (C5.out.below hb6);have HMP6:=Lib.hid (HMP5.out.keep hb6);have HX6:=Lib.hid (HX5.out.below hb6);clear hb6 hr1 C5 HMP5 HX5 c0 c1 c2;cases r1 with
 |false=>
  go_wp2_with fail
  refine(b_B _).mono ?_;rintro e wd ⟨rfl,hbd⟩;have CD:=Lib.hid (C6.out.below hbd);clear hbd;go_wp2_with fail
  go_ret;exact⟨by first|rfl|(simp;done),CD.out.old⟩
 |true=>
 obtain⟨c0,c1,c2⟩:=HX6.out.cells;go_wp2_with fail
 refine(j_m W.heap.size (some qa) cm (bvW x) (bkW ds os ps) ps b _ (by exact HMP6.out) (by exact CR.book C6.out)).mono ?_;rintro e w7 ⟨y,py,rfl,hn7⟩;obtain⟨⟨yb,yk,ye⟩,hME⟩:∃z,c_N cm (bkW ds os ps) b=z:=⟨_,rfl⟩;rw[hME]at hn7 ⊢;have HME:=Lib.hid hME;go_upto_region 9 with fail
 have b8:Below w7.heap.size w7 (w7.alloc (.cells #[y.ds.v,y.os.v,y.pl.v] 42)):=(Below.refl _ _).alloc (Nat.le_refl _) _;have hb78:Below w6.heap.size w6 (w7.alloc (.cells #[y.ds.v,y.os.v,y.pl.v] 42)):=hn7.old.trans (b8.mono hn7.old.size);have C8:=Lib.hid (C6.out.below hb78);have HMP8:=Lib.hid (HMP6.out.keep hb78);have HX8:=Lib.hid (HX6.out.below hb78);have HY8:=Lib.hid (BBox.new w7 42 y);have HK8:=Lib.hid (hn7.read.next b8);obtain⟨W8,hW8⟩:∃u,w7.alloc (.cells #[y.ds.v,y.os.v,y.pl.v] 42)=u:=⟨_,rfl⟩;obtain⟨gy,hgy⟩:∃g,w7.heap.size=g:=⟨_,rfl⟩;rw[hW8]at C8 HMP8 HX8 HY8 HK8;rw[hW8];rw[hgy]at HY8;try rw[hgy]
 clear hn7 hME hb78 b8 hW8 hgy C6 HMP6 HX6 c0 c1 c2;by_cases hbb:b<0∨100000<b
 ·have HEE:Hid (ye=1∧yk=0):=by
   have h1:=HME.out;unfold c_N at h1;rw[if_pos (.inr hbb)]at h1;injection h1 with h1 h2;injection h2 with h2 h3;exact⟨h3.symm,h2.symm⟩
  obtain⟨rfl,rfl⟩:=HEE.out;rcases hbb with hbb|hbb
  ·clear HEE
   go_wp2_with fail
   refine(b_B _).mono ?_;rintro e wd ⟨rfl,hbd⟩;have CD:=Lib.hid (C8.out.below hbd);clear hbd;go_wp2_with fail
   go_ret;exact⟨by first|rfl|(simp;done),CD.out.old⟩
  ·have hbc:¬b<0:=by omega
   clear HEE;go_wp2_with fail
   refine(b_B _).mono ?_;rintro e wd ⟨rfl,hbd⟩;have CD:=Lib.hid (C8.out.below hbd);clear hbd;go_wp2_with fail
   go_ret;exact⟨by first|rfl|(simp;done),CD.out.old⟩
 have hb0:¬b<0:=by omega
 have hb1:¬100000<b:=by omega
 obtain⟨s,hs,hms,hsn,⟨t,u',hT,hU,hut⟩,hord,hrs⟩:=r_v (n:=b) HR1.out (by omega) (by omega)
 have hyy:yb=⟨ds,os,s.out⟩∧yk=(s.steps:Int)∧ye=0:=by
  have h1:=HME.out;rw[hms]at h1;injection h1 with h1 h2;injection h2 with h2 h3;exact⟨h1.symm,h2.symm,h3.symm⟩
 obtain⟨rfl,rfl,rfl⟩:=hyy;have HT:Hid (a_z cm ds os (ps.map (·.rt))=some t):=hT;have HU:Hid (a_z cm ds os (py.map (·.rt))=some u'):=by show _=_;rw[HK8.out.rt];exact hU
 have HUT:Hid (decide (u'≤t)=true):=decide_eq_true hut;have HSN:Hid (decide ((s.steps:Int)≤b)=true):=decide_eq_true hsn;have HOR:Hid (a_p (py.map (·.rt))=a_p (ps.map (·.rt))):=by show _=_;rw[HK8.out.rt];exact hord
 have HRY:Hid (a_h (py.map (·.rt))=true):=by show _=_;rw[HK8.out.rt];exact(a_9 hrs).2.2.2.1
 have HRX:Hid (a_h (ps.map (·.rt))=true):=(a_9 HR1.out).2.2.2.1;clear hbb hs hms hsn hT hU hut hord hrs HME;obtain⟨c0,c1,c2⟩:=HX8.out.cells;go_wp2_with fail
 refine(RepairW.ptotal_any W.heap.size (.pointer (some qa)) cm x.ds.a x.ds.n x.ds.c ds x.os.a x.os.n x.os.c os x.pl.a x.pl.n x.pl.c ps _ x.ds.h x.os.h (by exact HMP8.out) (by exact C8.out.drvs) (by exact C8.out.ords) (by exact C8.out.plns)).mono ?_;rintro e w9 ⟨rfl,hb9⟩;rw[HT.out];have C9:=Lib.hid (C8.out.below hb9);have HMP9:=Lib.hid (HMP8.out.keep hb9);have HX9:=Lib.hid (HX8.out.below hb9);have HY9:=Lib.hid (HY8.out.below hb9);have HK9:=Lib.hid (HK8.out.next hb9);clear hb9 C8 HMP8 HX8 HY8 HK8 c0 c1 c2;obtain⟨c0,c1,c2⟩:=HY9.out.cells;simp only[optV];go_wp2_with fail
 refine(RepairW.ptotal_any W.heap.size (.pointer (some qa)) cm y.ds.a y.ds.n y.ds.c ds y.os.a y.os.n y.os.c os y.pl.a y.pl.n y.pl.c py _ y.ds.h y.os.h (by exact HMP9.out) (by exact HK9.out.ds) (by exact HK9.out.os) (by exact HK9.out.pl)).mono ?_;rintro e w10 ⟨rfl,hb10⟩;rw[HU.out];have C10:=Lib.hid (C9.out.below hb10);have HX10:=Lib.hid (HX9.out.below hb10);have HY10:=Lib.hid (HY9.out.below hb10);have HK10:=Lib.hid (HK9.out.next hb10);clear hb10 C9 HMP9 HX9 HY9 HK9 c0 c1 c2;simp only[optV];go_upto_region 13 with fail
 obtain⟨fo,hfo⟩:∃f,a_p (ps.map (·.rt))=f:=⟨_,rfl⟩;have HFO:=Lib.hid hfo;rw[hfo]at HOR;clear hfo;have HC:Hid (∀ u,Below w10.heap.size w10 u→CR W qq r m x ds os ps u):=fun u hu=>C10.out.below hu;have HP:Hid (∀ u,Below w10.heap.size w10 u→BkR u u.heap.size y ⟨ds,os,s.out⟩ py):=fun u hu=>HK10.out.next hu;have HXB:Hid (∀ u,Below w10.heap.size w10 u→BBox u gb 42 (bvW x)):=fun u hu=>HX10.out.below hu;have HYB:Hid (∀ u,Below w10.heap.size w10 u→BBox u gy 42 y):=fun u hu=>HY10.out.below hu;refine a_s (mixRF 0 [91,92,93,94,95,96,97,98,99,100,101,102,103,104,105,106,107,108,109,110,111,112,113,114,115,116,117,4] [.int .i64 0,.bool true,.bool true,.bool true,.bool true,.bool true,.int .i64 u',.int .i64 t,.bool true,.bool true,.bool true,.int .i64 (s.steps:Int),.int .i64 b,.bool true,.bool true,.bool true,.pointer (some ⟨gy,2,none⟩),y.pl.v,undef,.pointer (some ⟨gb,2,none⟩),x.pl.v,undef,.bool true,.bool true,.bool true,.bool true,.bool true,.bool true] [⟨18,1,3,fo.length,b_l fo⟩,⟨21,1,3,fo.length,b_l fo⟩] []) (by kernel_rfl) (by kernel_rfl) (by kernel_rfl) (fun _ _=>rfl) (by kernel_rfl) mixRF.mon ?_ ?_
 ·refine⟨?_,?_,?_,?_,?_,?_,?_,?_,?_,?_,?_,?_,?_,?_,?_,?_,?_,?_,?_,?_,?_,?_,?_,?_,?_,?_,?_,?_,trivial⟩
  ·exact mixRF.pureStep rfl 91 rfl rfl (by simp) (by kernel_rfl) _ rfl fun listed a u D hI hr hn=>a_a (.inl rfl) (hI.out 11 (by kernel_rfl))
  ·exact mixRF.pureStep rfl 92 rfl rfl (by simp) (by kernel_rfl) _ rfl fun listed a u D hI hr hn=>t_A rfl rfl (mixRF.val hI hr hn 0 (by kernel_rfl) (by kernel_rfl) rfl rfl) rfl rfl
  ·exact mixRF.pureStep rfl 93 rfl rfl (by simp) (by kernel_rfl) _ rfl fun listed a u D hI hr hn=>a_a (.inl rfl) (mixRF.val hI hr hn 1 (by kernel_rfl) (by kernel_rfl) rfl rfl)
  ·exact mixRF.pureG 94 rfl rfl (by simp) (by kernel_rfl) _ rfl fun listed a u D hI hr hn=>⟨a_m (t:=93) rfl (by kernel_rfl) (mixRF.val hI hr hn 2 (by kernel_rfl) (by kernel_rfl) rfl rfl),a_a (.inl rfl) (hI.out 15 (by kernel_rfl))⟩
  ·exact mixRF.pureStep rfl 95 rfl rfl (by simp) (by kernel_rfl) _ rfl fun listed a u D hI hr hn=>j_s rfl (mixRF.val hI hr hn 2 (by kernel_rfl) (by kernel_rfl) rfl rfl) (mixRF.val hI hr hn 3 (by kernel_rfl) (by kernel_rfl) rfl rfl) rfl
  ·exact mixRF.pureStep rfl 96 rfl rfl (by simp) (by kernel_rfl) _ rfl fun listed a u D hI hr hn=>a_a (.inl rfl) (mixRF.val hI hr hn 4 (by kernel_rfl) (by kernel_rfl) rfl rfl)
  ·exact mixRF.pureG 97 rfl rfl (by simp) (by kernel_rfl) _ rfl fun listed a u D hI hr hn=>⟨a_m (t:=96) rfl (by kernel_rfl) (mixRF.val hI hr hn 5 (by kernel_rfl) (by kernel_rfl) rfl rfl),a_a (.inl rfl) (hI.out 14 (by kernel_rfl))⟩
  ·exact mixRF.pureG 98 rfl rfl (by simp) (by kernel_rfl) _ rfl fun listed a u D hI hr hn=>⟨a_m (t:=96) rfl (by kernel_rfl) (mixRF.val hI hr hn 5 (by kernel_rfl) (by kernel_rfl) rfl rfl),a_a (.inl rfl) (hI.out 12 (by kernel_rfl))⟩
  ·exact mixRF.pureG 99 rfl rfl (by simp) (by kernel_rfl) _ rfl fun listed a u D hI hr hn=>⟨a_m (t:=96) rfl (by kernel_rfl) (mixRF.val hI hr hn 5 (by kernel_rfl) (by kernel_rfl) rfl rfl),s_f rfl (mixRF.val hI hr hn 6 (by kernel_rfl) (by kernel_rfl) rfl rfl) (mixRF.val hI hr hn 7 (by kernel_rfl) (by kernel_rfl) rfl rfl) HUT.out⟩
  ·exact mixRF.pureStep rfl 100 rfl rfl (by simp) (by kernel_rfl) _ rfl fun listed a u D hI hr hn=>j_s rfl (mixRF.val hI hr hn 5 (by kernel_rfl) (by kernel_rfl) rfl rfl) (mixRF.val hI hr hn 8 (by kernel_rfl) (by kernel_rfl) rfl rfl) rfl
  ·exact mixRF.pureStep rfl 101 rfl rfl (by simp) (by kernel_rfl) _ rfl fun listed a u D hI hr hn=>a_a (.inl rfl) (mixRF.val hI hr hn 9 (by kernel_rfl) (by kernel_rfl) rfl rfl)
  ·exact mixRF.pureG 102 rfl rfl (by simp) (by kernel_rfl) _ rfl fun listed a u D hI hr hn=>⟨a_m (t:=101) rfl (by kernel_rfl) (mixRF.val hI hr hn 10 (by kernel_rfl) (by kernel_rfl) rfl rfl),a_a (.inl rfl) (hI.out 10 (by kernel_rfl))⟩
  ·exact mixRF.pureG 103 rfl rfl (by simp) (by kernel_rfl) _ rfl fun listed a u D hI hr hn=>⟨a_m (t:=101) rfl (by kernel_rfl) (mixRF.val hI hr hn 10 (by kernel_rfl) (by kernel_rfl) rfl rfl),a_a (.inl rfl) (hI.out 1 (by kernel_rfl))⟩
  ·exact mixRF.pureG 104 rfl rfl (by simp) (by kernel_rfl) _ rfl fun listed a u D hI hr hn=>⟨a_m (t:=101) rfl (by kernel_rfl) (mixRF.val hI hr hn 10 (by kernel_rfl) (by kernel_rfl) rfl rfl),s_f rfl (mixRF.val hI hr hn 11 (by kernel_rfl) (by kernel_rfl) rfl rfl) (mixRF.val hI hr hn 12 (by kernel_rfl) (by kernel_rfl) rfl rfl) HSN.out⟩
  ·exact mixRF.pureStep rfl 105 rfl rfl (by simp) (by kernel_rfl) _ rfl fun listed a u D hI hr hn=>j_s rfl (mixRF.val hI hr hn 10 (by kernel_rfl) (by kernel_rfl) rfl rfl) (mixRF.val hI hr hn 13 (by kernel_rfl) (by kernel_rfl) rfl rfl) rfl
  ·exact mixRF.pureStep rfl 106 rfl rfl (by simp) (by kernel_rfl) _ rfl fun listed a u D hI hr hn=>a_a (.inl rfl) (mixRF.val hI hr hn 14 (by kernel_rfl) (by kernel_rfl) rfl rfl)
  ·exact mixRF.pureG 107 rfl rfl (by simp) (by kernel_rfl) _ rfl fun listed a u D hI hr hn=>⟨a_m (t:=106) rfl (by kernel_rfl) (mixRF.val hI hr hn 15 (by kernel_rfl) (by kernel_rfl) rfl rfl),a_H rfl (hI.out 9 (by kernel_rfl)) (by simp[go_sem])⟩
  ·exact mixRF.pureG 108 rfl rfl (by simp) (by kernel_rfl) _ rfl fun listed a u D hI hr hn=>⟨a_m (t:=106) rfl (by kernel_rfl) (mixRF.val hI hr hn 15 (by kernel_rfl) (by kernel_rfl) rfl rfl),a_f rfl (mixRF.val hI hr hn 16 (by kernel_rfl) (by kernel_rfl) rfl rfl) (d_O (HYB.out _ (a_C hI.old)).cells.2.2)⟩
  ·refine mixRF.callRowG (x:=⟨18,1,3,fo.length,b_l fo⟩) 109 rfl rfl (by simp) (by kernel_rfl) (by kernel_rfl) (by kernel_rfl) (Nat.zero_le _) fun listed a u D hI hr hn=>?_
   refine⟨a_m (t:=106) rfl (by kernel_rfl) (mixRF.val hI hr hn 15 (by kernel_rfl) (by kernel_rfl) rfl rfl),_,_,c_m rfl (mixRF.val hI hr hn 17 (by kernel_rfl) (by kernel_rfl) rfl rfl) (by simp[go_sem]),?_⟩;refine(e_a _ _ _ _ u (HP.out _ (a_C hI.old)).pl (l_Z HRY.out)).mono ?_;rintro en u' ⟨v,rfl,hns⟩;refine⟨v,rfl,hns.old,?_⟩;have ho:=hns.own;rw[HOR.out]at ho;exact ho
  ·exact mixRF.pureG 110 rfl rfl (by simp) (by kernel_rfl) _ rfl fun listed a u D hI hr hn=>⟨a_m (t:=106) rfl (by kernel_rfl) (mixRF.val hI hr hn 15 (by kernel_rfl) (by kernel_rfl) rfl rfl),a_H rfl (hI.out 8 (by kernel_rfl)) (by simp[go_sem])⟩
  ·exact mixRF.pureG 111 rfl rfl (by simp) (by kernel_rfl) _ rfl fun listed a u D hI hr hn=>⟨a_m (t:=106) rfl (by kernel_rfl) (mixRF.val hI hr hn 15 (by kernel_rfl) (by kernel_rfl) rfl rfl),a_f rfl (mixRF.val hI hr hn 19 (by kernel_rfl) (by kernel_rfl) rfl rfl) (d_O (HXB.out _ (a_C hI.old)).cells.2.2)⟩
  ·refine mixRF.callRowG (x:=⟨21,1,3,fo.length,b_l fo⟩) 112 rfl rfl (by simp) (by kernel_rfl) (by kernel_rfl) (by kernel_rfl) (Nat.zero_le _) fun listed a u D hI hr hn=>?_
   refine⟨a_m (t:=106) rfl (by kernel_rfl) (mixRF.val hI hr hn 15 (by kernel_rfl) (by kernel_rfl) rfl rfl),_,_,c_m rfl (mixRF.val hI hr hn 20 (by kernel_rfl) (by kernel_rfl) rfl rfl) (by simp[go_sem]),?_⟩;refine(e_a _ _ _ _ u (HC.out _ (a_C hI.old)).plns (l_Z HRX.out)).mono ?_;rintro en u' ⟨v,rfl,hns⟩;refine⟨v,rfl,hns.old,?_⟩;have ho:=hns.own;rw[HFO.out]at ho;exact ho
  ·refine mixRF.callVG 113 rfl rfl (by simp) (by kernel_rfl) _ rfl fun listed a u D hI hr hn=>?_
   obtain⟨A8,c8,e8,_,hr8⟩:=mixRF.row (x:=⟨18,1,3,fo.length,b_l fo⟩) hI hr hn 18 (by kernel_rfl) (by kernel_rfl) (by kernel_rfl) (by kernel_rfl) (s:=109) rfl;obtain⟨A9,c9,e9,_,hr9⟩:=mixRF.row (x:=⟨21,1,3,fo.length,b_l fo⟩) hI hr hn 21 (by kernel_rfl) (by kernel_rfl) (by kernel_rfl) (by kernel_rfl) (s:=112) rfl;exact⟨a_m (t:=106) rfl (by kernel_rfl) (mixRF.val hI hr hn 15 (by kernel_rfl) (by kernel_rfl) rfl rfl),_,_,b_5 rfl e8 e9 (by simp[go_sem]),(q_7 A8 A9 fo.length c8 fo.length c9 fo _ _ u (p_T hr8) (p_T hr9)).mono fun en u' ⟨h1,d,h2⟩=>⟨h1,r_J h2⟩⟩
  ·exact mixRF.pureStep rfl 114 rfl rfl (by simp) (by kernel_rfl) _ rfl fun listed a u D hI hr hn=>j_s rfl (mixRF.val hI hr hn 15 (by kernel_rfl) (by kernel_rfl) rfl rfl) (mixRF.val hI hr hn 22 (by kernel_rfl) (by kernel_rfl) rfl rfl) rfl
  ·exact mixRF.pureStep rfl 115 rfl rfl (by simp) (by kernel_rfl) _ rfl fun listed a u D hI hr hn=>a_a (.inl rfl) (mixRF.val hI hr hn 23 (by kernel_rfl) (by kernel_rfl) rfl rfl)
  ·exact mixRF.callVG 116 rfl rfl (by simp) (by kernel_rfl) _ rfl fun listed a u D hI hr hn=>⟨a_m (t:=115) rfl (by kernel_rfl) (mixRF.val hI hr hn 24 (by kernel_rfl) (by kernel_rfl) rfl rfl),_,_,r_K rfl (by simp[go_sem]),b_B u⟩
  ·exact mixRF.pureStep rfl 117 rfl rfl (by simp) (by kernel_rfl) _ rfl fun listed a u D hI hr hn=>j_s rfl (mixRF.val hI hr hn 24 (by kernel_rfl) (by kernel_rfl) rfl rfl) (mixRF.val hI hr hn 25 (by kernel_rfl) (by kernel_rfl) rfl rfl) rfl
  ·exact mixRF.pureStep rfl 4 rfl rfl (by simp) (by kernel_rfl) _ rfl fun listed a u D hI hr hn=>a_a (.inr rfl) (mixRF.val hI hr hn 26 (by kernel_rfl) (by kernel_rfl) rfl rfl)
 ·intro listed a v D hI hall
  have eR:=mixRF.at_end hI hall 27 (by decide) (by kernel_rfl) (s:=4) (v:=.bool true) rfl rfl;have hold:=a_C hI.old;have hl:=hI.fill [91,92,93,94,95,96,97,98,99,100,101,102,103,104,105,106,107,108,109,110,111,112,113,114,115,116,117,4] (by kernel_rfl);clear hI hall;obtain⟨σ,hσ⟩:∃σ:Nat→Value,∀t,a.tmps.getD t undef=σ t:=⟨_,fun _=>rfl⟩;simp only[hσ]at hl eR;clear hσ;simp only[List.foldl_cons,List.foldl_nil,List.setIfInBounds_toArray,List.set_cons_zero,List.set_cons_succ,eR]at hl;subst hl;have CD:=Lib.hid (HC.out _ hold);clear HC HP HXB HYB C10 HX10 HY10 HK10 hold eR;go_wp2_with fail
  go_ret;exact⟨by first|rfl|(simp;done),CD.out.old⟩
theorem g_V(x:Wd)(b:Int)(W:World)(h:∃ts ds os ps,Frames.WdOk W x ts ds os∧Frames.PlnOk W x.pl.a x.pl.n x.pl.c ps):Calls Tryz.prog 9 #[wdV x,.int .i64 b] W fun e w'=>e=.returned (.bool true)∧Below W.heap.size W w':=by
 obtain⟨ts,ds,os,ps,h1,h2⟩:=h;exact e_Y x b ts ds os ps W h1.ts h1.ds h1.os h2.plns
end Pln
end Go.Proofs.YtkpnmpjnpcjohaaGreat
