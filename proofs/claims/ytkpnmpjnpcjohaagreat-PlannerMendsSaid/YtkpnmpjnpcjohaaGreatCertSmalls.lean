import Derived.Test.YtkpnmpjnpcjohaaGreatCertFinds
import Derived.Test.YtkpnmpjnpcjohaaGreatPlanRights
set_option linter.unusedSimpArgs false
set_option linter.unusedVariables false
set_option maxHeartbeats 8000000
set_option maxRecDepth 100000
namespace Go.Proofs.YtkpnmpjnpcjohaaGreat
open ChangeShapes WideShapes ChangeAt RowKit Mem GeoMath FleetMath PlanMath CertMath Rec Geo Span Deal Route Plan
namespace Cert
abbrev d_m(q:Option Addr)(A:Option Addr)(n c:Nat)(A2:Option Addr)(n2 c2:Nat):Value:=.agg #[.pointer q,.slice A n c,.slice A2 n2 c2]
def FlBox(u:World)(g:Nat)(q:Option Addr)(A:Option Addr)(n c:Nat)(A2:Option Addr)(n2 c2:Nat):Prop:=Blk u g 163 [.pointer q,.slice A n c,.slice A2 n2 c2]
theorem FlBox.below{u u':World}{g:Nat}{q A A2:Option Addr}{n c n2 c2:Nat}(h:FlBox u g q A n c A2 n2 c2)(hb:Below u.heap.size u u'):FlBox u' g q A n c A2 n2 c2:=Blk.below h hb (Blk.lt h)
theorem FlBox.cells{u:World}{g:Nat}{q A A2:Option Addr}{n c n2 c2:Nat}(h:FlBox u g q A n c A2 n2 c2):u.cell? ⟨g,0,none⟩=some (.pointer q)∧u.cell? ⟨g,1,none⟩=some (.slice A n c)∧u.cell? ⟨g,2,none⟩=some (.slice A2 n2 c2):=
 ⟨Blk.cell h rfl,Blk.cell h rfl,Blk.cell h rfl⟩
abbrev WF(w:World)(q A:Option Addr)(n c:Nat)(A2:Option Addr)(n2 c2:Nat):World:=w.alloc (.cells #[.pointer q,.slice A n c,.slice A2 n2 c2] 163)
def c_U(m:Option Mp)(ds:List Drv):Bool:=decide (∀ d∈ds,drvE m d=0) && decide (e_P ds)
structure HS(w:World)(q A:Option Addr)(n c:Nat)(A2:Option Addr)(n2 c2:Nat)(u:World):Prop where
 old:Below w.heap.size w u
 box:FlBox u w.heap.size q A n c A2 n2 c2
section
variable {w u u' : World} {q A A2 : Option Addr} {n c n2 c2 : Nat}
theorem HS.next(h:HS w q A n c A2 n2 c2 u)(hb:Below u.heap.size u u'):HS w q A n c A2 n2 c2 u':=⟨h.old.trans (hb.mono h.old.size),h.box.below hb⟩
theorem HS.start:HS w q A n c A2 n2 c2 (WF w q A n c A2 n2 c2):=⟨(Below.refl _ _).alloc (Nat.le_refl _) _,Blk.new w _ _⟩
end
theorem below_drew{w u':World}(hb:Below w.drew.heap.size w.drew u'):Below w.heap.size w u':=(Below.refl w.heap.size w).drew.trans hb
theorem m_u{w:World}{B n k:Nat}{A:Option Addr}{l:List Drv}(h:Drvs w B A n l)(hk:k≤n):Drvs w B A k (l.take k):=by
 have hl:=h.length;refine⟨by rw[d_H,List.length_take];omega,by have:=h.2.1;omega,fun hp=>?_⟩;obtain⟨b,off,e,hb,hc⟩:=h.2.2 (by omega);refine⟨b,off,e,hb,fun j u hu=>hc j u ?_⟩;have e2:a_0 l=a_0 (l.take k)++a_0 (l.drop k):=by rw[← j_S,List.take_append_drop]
 rw[e2,List.getElem?_append_left (List.getElem?_eq_some_iff.1 hu).1];exact hu
theorem g_J{o:Oper}{a:Act}{u:World}{x y:Operand}{A:Option Addr}{n c h:Nat}(ho:o.op=.slice 34 x none (some y) none)(hx:a.eval x=.slice A n c)(hy:a.eval y=.int .i64 (h:Int))(h2:h≤n)(h3:n≤c):
 (execOp a.eval o).run Tryz.prog u=.ok (.value (.slice A h c)) u:=by
 have hsz:(sizeOf 33).run Tryz.prog u=.ok 6 u:=by
  obtain⟨i,hi,_,hz,_⟩:=info_parts e_3;simp[sizeOf,typeInfo,hi,hz]
 have q:h≤c:=Nat.le_trans h2 h3
 have hz0:A.map (·.add 0)=A:=by
  cases A with
  |none=>rfl
  |some ad=>rfl
 have hr:(Instr.sliceAt 34 (.slice A n c) none (some (.int .i64 (h:Int))) none).run Tryz.prog u=.ok (.slice A h c) u:=by
  simp[Instr.sliceAt,Instr.slice,Instr.sliceBounds,Instr.sliceBound,run_underlying Tryz.underlying34,asIntOf,hsz,q];intro _;exact hz0
 obtain⟨ρ,hρ⟩:∃ρ,a.eval=ρ:=⟨_,rfl⟩;rw[hρ]at hx hy ⊢;unfold execOp;rw[ho];simp only[hx,hy,Option.map_none,Option.map_some,Sem.run_bind,hr,Result.andThen_ok,Sem.run_pure]
theorem o_k{o:Oper}{a:Act}{u:World}(h:o.op=.alloc 33):(execOp a.eval o).run Tryz.prog u=.ok (.value (.pointer (some ⟨u.heap.size,0,none⟩))) (u.alloc (.cells #[.int .i64 0,.int .i64 0,.int .i64 0,.int .i64 0,.int .i64 0,.bool false] 33)):=by
 unfold execOp;rw[h];simp[go_sem]
theorem h_R{u:World}{g:Nat}{d:Drv}(h:Blk u g 33 [.int .i64 0,.int .i64 0,.int .i64 0,.int .i64 0,.int .i64 0,.bool false]):(Instr.storeAt 33 (.pointer (some ⟨g,0,none⟩)) (drvV d)).run Tryz.prog u=.ok () (putD u g d):=by
 have c0:=h.cell (i:=0) rfl;have c1:=h.cell (i:=1) rfl;have c2:=h.cell (i:=2) rfl;have c3:=h.cell (i:=3) rfl;have c4:=h.cell (i:=4) rfl;have c5:=h.cell (i:=5) rfl;have hff:=h.free;have hcs:=a_c g;have hfs:=a_d;simp[go_sem,c0,c1,c2,c3,c4,c5,hff,hcs,hfs]
theorem gdriver_v(base:Nat)(pv:Value)(m:Option Mp)(d:Drv)(v:Int)(w:World)(h:MapP w 92 base pv m)(hv:drvE m d=v):
 Calls Tryz.prog 52 #[pv,drvV d] w (a_y w (.int .i64 v)):=by rw[← hv];exact d_5 base pv m d w h
theorem gknown_v(base:Nat)(pv:Value)(m:Option Mp)(A:Option Addr)(n c:Nat)(os:List FleetMath.Ord)(b:Bool)(w:World)(hnc:n≤c)(h:MapP w 92 base pv m)(hl:Ords w w.heap.size A n os)(hb:a_V m os=b):
 Calls Tryz.prog 164 #[pv,.slice A n c] w (a_y w (.bool b)):=by rw[← hb];exact h_f base pv m A n c os w hnc h hl
theorem q_J(A:Option Addr)(n c:Nat)(l:List RM)(b:Bool)(w:World)(hl:Plns w w.heap.size A n l)(hb:a_h (l.map (·.rt))=b):
 Calls Tryz.prog 74 #[.slice A n c] w (a_y w (.bool b)):=by
 rw[← hb];exact(pright_any A n c l w hl).mono fun e w' h=>h
theorem o_l{ds:List Drv}{k:Nat}{d:Drv}(h:e_P (ds.take k))(hd:ds[k]?=some d)(hn:a_o (ds.take k) d.id=none):e_P (ds.take (k+1)):=by
 unfold e_P at h ⊢;rw[List.take_add_one,hd,Option.toList,List.pairwise_append];refine⟨h,List.pairwise_singleton _ _,fun a ha b hb=>?_⟩;obtain rfl:b=d:=by simpa using hb
 exact fun e=>by
  have:=List.find?_eq_none.1 hn a ha;exact this (by simpa using e)
theorem m_v{ds:List Drv}{k:Nat}{d x:Drv}(hd:ds[k]?=some d)(hn:a_o (ds.take k) d.id=some x):¬e_P ds:=by
 intro h;have hx:=List.mem_of_find?_eq_some hn;have he:x.id=d.id:=by have:=List.find?_some hn;simpa using this
 have e:ds=ds.take k++ds.drop k:=(List.take_append_drop k ds).symm;unfold e_P at h;rw[e,List.pairwise_append]at h
 exact h.2.2 x hx d (by
  obtain⟨hlt,e⟩:=List.getElem?_eq_some_iff.1 hd;rw[← e,List.drop_eq_getElem_cons hlt];exact List.mem_cons_self) he
theorem k_e{m:Option Mp}{ds:List Drv}{k:Nat}{d x:Drv}(hd:ds[k]?=some d)(hn:a_o (ds.take k) d.id=some x):c_U m ds=false:=by
 unfold c_U;rw[decide_eq_false (m_v hd hn),Bool.and_false]
theorem k_f{m:Option Mp}{ds:List Drv}{k:Nat}{d:Drv}(hd:ds[k]?=some d)(hn:drvE m d≠0):c_U m ds=false:=by
 unfold c_U;rw[decide_eq_false (fun h=>hn (h d (List.mem_of_getElem? hd))),Bool.false_and]
def HK(m:Option Mp)(ds:List Drv)(k:Nat):Prop:=(∀ d∈ds.take k,drvE m d=0)∧e_P (ds.take k)
theorem HK.start{m:Option Mp}{ds:List Drv}:HK m ds 0:=⟨(fun d hd=>by cases hd),List.Pairwise.nil⟩
theorem HK.next{m:Option Mp}{ds:List Drv}{k:Nat}{d:Drv}(h:HK m ds k)(hd:ds[k]?=some d)(h0:drvE m d=0)(hn:a_o (ds.take k) d.id=none):HK m ds (k+1):=by
 refine⟨fun x hx=>?_,o_l h.2 hd hn⟩;rw[List.take_add_one,hd,Option.toList,List.mem_append]at hx;rcases hx with hx|hx
 ·exact h.1 x hx
 ·obtain rfl:x=d:=by simpa using hx
  exact h0
theorem HK.done{m:Option Mp}{ds:List Drv}{k:Nat}(h:HK m ds k)(hk:ds.length≤k):c_U m ds=true:=by
 obtain⟨h1,h2⟩:=h;rw[List.take_of_length_le hk]at h1 h2;unfold c_U;rw[decide_eq_true h1,decide_eq_true h2];rfl
theorem phired_any(base:Nat)(q:Option Addr)(m:Option Mp)(A:Option Addr)(n c:Nat)(ds:List Drv)(A2:Option Addr)(n2 c2:Nat)(w:World)(hnc:n≤c)(h:MapP w 92 base (.pointer q) m)(hd:Drvs w w.heap.size A n ds):
 Calls Tryz.prog 163 #[d_m q A n c A2 n2 c2] w (a_y w (.bool (c_U m ds))):=by
 have hm:=Recs.le hd;have HM:=Lib.hid h;have HD:=Lib.hid hd;have HL:=Lib.hid hd.length;have HS0:Hid (HS w q A n c A2 n2 c2 (WF w q A n c A2 n2 c2)):=HS.start;have HK0:Hid (HK m ds 0):=HK.start;clear h hd;go_enter Tryz.func163,Tryz.ntmps163;obtain⟨f0,f1,f2⟩:=HS0.out.box.cells;go_wp2_with fail
 go_loopw [10] (fun i wr=>∃k:Nat,k≤n∧i=.int .i64 k∧Hid (HS w q A n c A2 n2 c2 wr)∧Hid (HK m ds k)) (fun i _=>n-(intOf i).toNat)
 case atStart=>exact⟨0,Nat.zero_le _,rfl,HS0,HK0⟩
 case round=>
  clear HS0 HK0 f0 f1 f2;obtain⟨k,hk,rfl,HS1,HK1⟩:=hrel;by_cases hlt:k<n
  ·obtain⟨b,off,d,rfl,hbb,hdk,hdr,c0,c1,c2',c3,c4,c5⟩:=Drvs.at_ (Recs.keep HD.out HS1.out.old) hlt
   have HDK:=Lib.hid hdk;obtain⟨r,hr⟩:∃r,a_o (ds.take k) d.id=r:=⟨_,rfl⟩;have HR:=Lib.hid hr;obtain⟨dd,tw,hfv,hf1,hf0⟩:=q_x r;have HFV:=Lib.hid hfv;have HF1:=Lib.hid hf1;have HF0:=Lib.hid hf0;obtain⟨e1,he1⟩:∃e,drvE m d=e:=⟨_,rfl⟩;have HE:=Lib.hid he1;have HS2:Hid (HS w q (some ⟨b,off,none⟩) n c A2 n2 c2 (wr.alloc (.cells #[.int .i64 d.id,.int .i64 d.room,.int .i64 d.home,.int .i64 d.win.fr,.int .i64 d.win.to,.bool d.retired] 33))):=HS1.out.next ((Below.refl _ _).alloc (Nat.le_refl _) _);have HX2:Hid (DBox (wr.alloc (.cells #[.int .i64 d.id,.int .i64 d.room,.int .i64 d.home,.int .i64 d.win.fr,.int .i64 d.win.to,.bool d.retired] 33)) wr.heap.size d):=Blk.new wr _ _;obtain⟨gd,hgd⟩:∃g,wr.heap.size=g:=⟨_,rfl⟩;obtain⟨w3,hw3⟩:∃u,wr.alloc (.cells #[.int .i64 d.id,.int .i64 d.room,.int .i64 d.home,.int .i64 d.win.fr,.int .i64 d.win.to,.bool d.retired] 33)=u:=⟨_,rfl⟩;have hki:(k:Int)<(n:Int):=by omega
   clear hdk hdr hr hfv hf1 hf0 he1;go_upto_region 4 with fail
   rw[hgd]at HX2;rw[hw3]at HS2 HX2;clear hw3 hgd HS1 c0 c1 c2' c3 c4 c5
   have HDV:Hid (∀ u,Below w3.heap.size w3 u→Calls Tryz.prog 165 #[.slice (some ⟨b,off,none⟩) k c,.int .i64 d.id] u fun en u'=>en=.returned (.tuple #[drvV dd,.bool tw])∧Below u.heap.size u u'):=
    Lib.hid fun u hu=>by
     have hb0:=HS2.out.old.trans (hu.mono HS2.out.old.size);have:=d_1 (some ⟨b,off,none⟩) k c (ds.take k) d.id r u (m_u (Recs.more (Recs.keep HD.out hb0) hb0.size) hk) HR.out;rw[HFV.out]at this;exact this
   have HC:Hid (∀ u,Below w3.heap.size w3 u→u.cell? ⟨w.heap.size,1,none⟩=some (.slice (some ⟨b,off,none⟩) n c)∧u.cell? ⟨gd,0,none⟩=some (.int .i64 d.id)∧True∧True):=
    Lib.hid fun u hu=>⟨(HS2.out.box.below hu).cells.2.1,(HX2.out.below hu).cells.1,trivial,trivial⟩
   go_cut [6] (fun v wx=>v=.bool tw∧Hid (Below w3.heap.size w3 wx))
   case first=>
    refine a_s (boxRF [16,17,18,19,20,21,22,15,23,24,5,5,6] [.pointer (some ⟨w.heap.size,1,none⟩),.slice (some ⟨b,off,none⟩) n c,.int .i64 (k:Int),.slice (some ⟨b,off,none⟩) k c,.pointer (some ⟨gd,0,none⟩),.int .i64 d.id,.tuple #[drvV dd,.bool tw],.tuple #[drvV dd,.bool tw],drvV dd,.bool tw,undef,undef,.bool tw] 10 11 33 [.int .i64 0,.int .i64 0,.int .i64 0,.int .i64 0,.int .i64 0,.bool false] [.int .i64 dd.id,.int .i64 dd.room,.int .i64 dd.home,.int .i64 dd.win.fr,.int .i64 dd.win.to,.bool dd.retired]) (by kernel_rfl) (by kernel_rfl) (by kernel_rfl) (fun q hq=>?_) (by kernel_rfl) boxRF.mon ?_ ?_
    ·simp only[List.length_cons,List.length_nil]at hq
     simp only[boxRF];rw[if_neg (by omega)]
    ·refine⟨?_,?_,?_,?_,?_,?_,?_,?_,?_,?_,?_,?_,?_,trivial⟩
     ·exact boxRF.pureStep rfl 16 rfl rfl (by simp) (by decide) (by decide) _ rfl fun listed a u D hI hr hn=>a_H rfl (hI.out 1 (by kernel_rfl)) (by simp[go_sem])
     ·exact boxRF.pureStep rfl 17 rfl rfl (by simp) (by decide) (by decide) _ rfl fun listed a u D hI hr hn=>a_f rfl (boxRF.val hI hr hn 0 (by kernel_rfl) (by decide) (by decide) rfl rfl) (by obtain⟨z0,z1,z2,z3⟩:=HC.out _ (below_drew hI.old);simp[go_sem,z0])
     ·exact boxRF.pureStep rfl 18 rfl rfl (by simp) (by decide) (by decide) _ rfl fun listed a u D hI hr hn=>a_a (.inl rfl) (hI.out 3 (by kernel_rfl))
     ·exact boxRF.pureStep rfl 19 rfl rfl (by simp) (by decide) (by decide) _ rfl fun listed a u D hI hr hn=>g_J rfl (boxRF.val hI hr hn 1 (by kernel_rfl) (by decide) (by decide) rfl rfl) (boxRF.val hI hr hn 2 (by kernel_rfl) (by decide) (by decide) rfl rfl) (by omega) (by omega)
     ·exact boxRF.pureStep rfl 20 rfl rfl (by simp) (by decide) (by decide) _ rfl fun listed a u D hI hr hn=>a_H rfl (hI.out 4 (by kernel_rfl)) (by simp[go_sem])
     ·exact boxRF.pureStep rfl 21 rfl rfl (by simp) (by decide) (by decide) _ rfl fun listed a u D hI hr hn=>a_f rfl (boxRF.val hI hr hn 4 (by kernel_rfl) (by decide) (by decide) rfl rfl) (by obtain⟨z0,z1,z2,z3⟩:=HC.out _ (below_drew hI.old);simp[go_sem,z1])
     ·exact boxRF.callStep rfl 22 rfl rfl (by simp) (by decide) (by decide) _ rfl fun listed a u D hI hr hn=>⟨_,_,b_5 rfl (boxRF.val hI hr hn 3 (by kernel_rfl) (by decide) (by decide) rfl rfl) (boxRF.val hI hr hn 5 (by kernel_rfl) (by decide) (by decide) rfl rfl) (by simp[go_sem]),HDV.out _ (below_drew hI.old)⟩
     ·exact boxRF.pureStep rfl 15 rfl rfl (by simp) (by decide) (by decide) _ rfl fun listed a u D hI hr hn=>a_a (.inl rfl) (boxRF.val hI hr hn 6 (by kernel_rfl) (by decide) (by decide) rfl rfl)
     ·exact boxRF.pureStep rfl 23 rfl rfl (by simp) (by decide) (by decide) _ rfl fun listed a u D hI hr hn=>a_6 rfl (boxRF.val hI hr hn 7 (by kernel_rfl) (by decide) (by decide) rfl rfl) rfl
     ·exact boxRF.pureStep rfl 24 rfl rfl (by simp) (by decide) (by decide) _ rfl fun listed a u D hI hr hn=>a_6 rfl (boxRF.val hI hr hn 7 (by kernel_rfl) (by decide) (by decide) rfl rfl) rfl
     ·exact boxRF.allocStep rfl 5 rfl rfl (by simp) fun a u=>o_k rfl
     ·exact boxRF.storeStep rfl rfl rfl rfl (by decide) (by kernel_rfl) fun listed a u D hI hr hn g e1 hb=>⟨_,b_m rfl e1 (boxRF.val hI hr hn 8 (by kernel_rfl) (by decide) (by decide) rfl rfl) (h_R hb),((((((Only.refl _ _).set _ _).set _ _).set _ _).set _ _).set _ _).set _ _,c_j hb dd⟩
     ·exact boxRF.pureStep rfl 6 rfl rfl (by simp) (by decide) (by decide) _ rfl fun listed a u D hI hr hn=>a_a (.inr rfl) (boxRF.val hI hr hn 9 (by kernel_rfl) (by decide) (by decide) rfl rfl)
    ·intro listed a u D hI hall
     obtain⟨gt,eB,hbx⟩:=boxRF.box hI hall (by decide) (by decide) (s:=5) rfl
     have eR0:a.tmps.getD 6 undef=.bool tw:=by
      have:=hI.fact 12 ⟨hall 12 (by simp),fun k hk=>by simp[boxRF]at hk⟩;simp only[boxRF]at this;rw[if_neg (by decide),if_neg (by decide)]at this;exact this.1
     have hold:=below_drew hI.old;have hl:=hI.fill [16,17,18,19,20,21,22,15,23,24,5,6] (by kernel_rfl);clear hI hall;obtain⟨σ,hσ⟩:∃σ:Nat→Value,∀t,a.tmps.getD t undef=σ t:=⟨_,fun _=>rfl⟩;simp only[hσ]at hl eB eR0;clear hσ;simp only[List.foldl_cons,List.foldl_nil,List.setIfInBounds_toArray,List.set_cons_zero,List.set_cons_succ,eB,eR0]at hl;subst hl;go_wp2_with fail
     go_meet
     exact⟨rfl,hold⟩
   case rest=>
   obtain⟨rfl,HB3⟩:=hcut;obtain⟨w4,rfl⟩:∃u,u=wc:=⟨_,rfl⟩;have HS4:=Lib.hid (HS2.out.next HB3.out);have HX4:=Lib.hid (HX2.out.below HB3.out);clear HC HDV HS2 HX2 HB3;cases tw with
   |true=>
    have HV:Hid (c_U m ds=false):=k_e HDK.out (HR.out.trans (HF1.out rfl));clear HK1 HF1 HF0;go_wp2_with fail
    go_ret;exact⟨a_j HV.out.symm,HS4.out.old⟩
   |false=>
    have HN:Hid (a_o (ds.take k) d.id=none):=HR.out.trans (HF0.out rfl);clear HF1 HF0;obtain⟨f0,f1,f2⟩:=HS4.out.box.cells;obtain⟨d0,d1,d2,d3,d4,d5⟩:=HX4.out.cells;go_wp2_with fail
    refine(gdriver_v base _ m d e1 _ (by exact HM.out.keep HS4.out.old) HE.out).mono ?_;rintro e w5 ⟨rfl,hb⟩;have HS5:=Lib.hid (HS4.out.next hb);clear hb HS4 HX4 f0 f1 f2 d0 d1 d2 d3 d4 d5;by_cases he:e1=0
    ·subst he
     have HK2:=Lib.hid (HK1.out.next HDK.out HE.out HN.out);go_wp2_with fail
     go_roundw
     case rel=>exact⟨k+1,by omega,by go_num,HS5,HK2⟩
     case measure=>simp[intOf];omega
    ·have e2:(e1 != 0)=true:=by simpa using he
     have HV:Hid (c_U m ds=false):=k_f HDK.out (by rw[HE.out];exact he);clear he HK1;go_wp2_with fail
     go_ret;exact⟨a_j HV.out.symm,HS5.out.old⟩
  ·have HV:Hid (c_U m ds=true):=HK1.out.done (by have:=HL.out;omega)
   clear HK1;go_wp2_with fail
   go_ret;exact⟨a_j HV.out.symm,HS1.out.old⟩
theorem m_w(m:Option Mp)(ds:List Drv)(os:List FleetMath.Ord)(p:List Rte):b_y m ds os p=(m.isSome && decide (ds.length≤8) && c_U m ds && a_V m os && a_h p):=by
 unfold b_y c_U;cases m.isSome<;>cases decide (ds.length≤8)<;>cases a_V m os<;>cases a_h p<;>cases decide (∀ d∈ds,drvE m d=0)<;>cases decide (e_P ds)<;>rfl
theorem e_k(base:Nat)(q:Option Addr)(m:Option Mp)(A:Option Addr)(n c:Nat)(ds:List Drv)(A2:Option Addr)(n2 c2:Nat)(os:List FleetMath.Ord)(A3:Option Addr)(n3 c3:Nat)(l:List RM)(res:Bool)(w:World)(hnc:n≤c)(hnc2:n2≤c2)
 (h:MapP w 92 base (.pointer q) m) (hd:Drvs w w.heap.size A n ds) (ho:Ords w w.heap.size A2 n2 os) (hl:Plns w w.heap.size A3 n3 l) (hres:b_y m ds os (l.map (·.rt))=res):
 Calls Tryz.prog 100 #[d_m q A n c A2 n2 c2,.slice A3 n3 c3] w (a_y w (.bool res)):=by
 rw[m_w]at hres;have HM:=Lib.hid h;have HD:=Lib.hid hd;have HO:=Lib.hid ho;have HP:=Lib.hid hl;have hlen:=hd.length;have HS0:Hid (HS w q A n c A2 n2 c2 (WF w q A n c A2 n2 c2)):=HS.start
 have hq:(q=none∧m=none)∨∃b,q=some ⟨b,0,none⟩∧m.isSome=true:=by
  rcases h with⟨h1,h2⟩|⟨b,n',l',h1,h2,_⟩
  ·injection h1 with h1;exact .inl ⟨h1,h2⟩
  ·injection h1 with h1;exact .inr ⟨b,h1,by rw[h2];rfl⟩
 clear h hd ho hl;go_enter Tryz.func100,Tryz.ntmps100;obtain⟨f0,f1,f2⟩:=HS0.out.box.cells;rcases hq with⟨rfl,rfl⟩|⟨b,rfl,hms⟩
 ·have HV:Hid (false=res):=hres
  clear hres hlen;go_wp2_with fail
  go_ret;exact⟨a_j HV.out,HS0.out.old⟩
 rw[hms]at hres;by_cases h8:n≤8
 case neg=>
  have HV:Hid (false=res):=by
   show _=_;rw[← hres,decide_eq_false (by omega:¬ds.length≤8)];rfl
  clear hres hlen hms;go_wp2_with fail
  go_ret;exact⟨a_j HV.out,HS0.out.old⟩
 rw[decide_eq_true (by omega:ds.length≤8),Bool.true_and,Bool.true_and]at hres;obtain⟨b1,hb1⟩:∃v,c_U m ds=v:=⟨_,rfl⟩;obtain⟨b2,hb2⟩:∃v,a_V m os=v:=⟨_,rfl⟩;obtain⟨b3,hb3⟩:∃v,a_h (l.map (·.rt))=v:=⟨_,rfl⟩;rw[hb1,hb2,hb3]at hres;have HB1:=Lib.hid hb1;have HB2:=Lib.hid hb2;have HB3:=Lib.hid hb3;have HV:=Lib.hid hres;clear hres hlen hms hb1 hb2 hb3
 have HHI:Hid (∀ u,Below w.heap.size w u→Calls Tryz.prog 163 #[d_m (some ⟨b,0,none⟩) A n c A2 n2 c2] u (a_y u (.bool b1))):=Lib.hid fun u hu=>by
  rw[← HB1.out];exact phired_any base (some ⟨b,0,none⟩) m A n c ds A2 n2 c2 u hnc (HM.out.keep hu) (Recs.more (Recs.keep HD.out hu) hu.size)
 go_wp2_with fail
 refine(HHI.out _ (by exact HS0.out.old)).mono ?_;rintro e w1 ⟨rfl,hb⟩;have HS1:=Lib.hid (HS0.out.next hb);clear hb HS0 f0 f1 f2 HHI;cases b1 with
 |false=>
  go_wp2_with fail
  go_ret;exact⟨a_j HV.out,HS1.out.old⟩
 |true=>
  obtain⟨f0,f1,f2⟩:=HS1.out.box.cells;go_wp2_with fail
  refine(gknown_v base _ m A2 n2 c2 os b2 _ hnc2 (by exact HM.out.keep HS1.out.old) (by exact Recs.more (Recs.keep HO.out HS1.out.old) HS1.out.old.size) HB2.out).mono ?_;rintro e w2 ⟨rfl,hb⟩;have HS2:=Lib.hid (HS1.out.next hb);clear hb HS1 f0 f1 f2;cases b2 with
  |false=>
   go_wp2_with fail
   go_ret;exact⟨a_j HV.out,HS2.out.old⟩
  |true=>
   go_wp2_with fail
   refine(q_J A3 n3 c3 l b3 _ (by exact(HP.out.keep HS2.out.old).more HS2.out.old.size) HB3.out).mono ?_;rintro e w3 ⟨rfl,hb⟩;have HS3:=Lib.hid (HS2.out.next hb);clear hb HS2;go_wp2_with fail
   go_ret;exact⟨a_j HV.out,HS3.out.old⟩
end Cert
namespace Cert
theorem l_A(k:Nat)(e:Int)(w:World):Calls Tryz.prog 71 #[faultV k e] w (a_y w (.int .i64 e)):=by
 go_enter Tryz.func71,Tryz.ntmps71;go_wp2
 go_ret;exact⟨rfl,(Below.refl _ _).alloc (Nat.le_refl _) _⟩
theorem k_g(x:Vis)(s:Stp)(b:Bool)(w:World)(hb:decide (x.stop=s)=b):Calls Tryz.prog 185 #[visV x,stpV s] w (a_y w (.bool b)):=by
 have HB:Hid (Below w.heap.size w ((w.alloc (.cells #[.int .i64 x.stop.ord,.bool x.stop.drop,.int .i64 x.arrive,.int .i64 x.start,.int .i64 x.leave,.int .i64 x.load] 245)).alloc (.cells #[.int .i64 s.ord,.bool s.drop] 48))):=((Below.refl _ _).alloc (Nat.le_refl _) _).alloc (by simp) _;have HV:Hid (decide (x.stop=s)=b):=hb;clear hb;by_cases h1:x.stop.ord=s.ord
 ·by_cases h2:x.stop.drop=s.drop
  ·have HF:Hid (true=b):=by
    show _=_;rw[← HV.out,decide_eq_true (Stp.ext_iff'.2 ⟨h1,h2⟩)]
   have e1:(x.stop.ord==s.ord)=true:=by simpa using h1
   have e2:(x.stop.drop==s.drop)=true:=by simpa using h2
   clear h1 h2 HV;go_enter Tryz.func185,Tryz.ntmps185;go_wp2
   go_ret;exact⟨a_j HF.out,HB.out⟩
  ·have HF:Hid (false=b):=by
    show _=_;rw[← HV.out,decide_eq_false (fun e=>h2 (by rw[e]))]
   have e1:(x.stop.ord==s.ord)=true:=by simpa using h1
   have e2:(x.stop.drop==s.drop)=false:=by simpa using h2
   clear h1 h2 HV;go_enter Tryz.func185,Tryz.ntmps185;go_wp2
   go_ret;exact⟨a_j HF.out,HB.out⟩
 ·have HF:Hid (false=b):=by
   show _=_;rw[← HV.out,decide_eq_false (fun e=>h1 (by rw[e]))]
  have e1:(x.stop.ord==s.ord)=false:=by simpa using h1
  clear h1 HV;go_enter Tryz.func185,Tryz.ntmps185;go_wp2
  go_ret;exact⟨a_j HF.out,HB.out⟩
theorem m_x{vs:List Vis}{stops:List Stp}{k:Nat}{x:Vis}{s:Stp}(h:(vs.take k).map (·.stop)=stops.take k)(hx:vs[k]?=some x)(hs:stops[k]?=some s)(e:x.stop=s):(vs.take (k+1)).map (·.stop)=stops.take (k+1):=by
 rw[List.take_add_one,List.take_add_one,hx,hs,List.map_append,h];simp[e]
theorem o_m{vs:List Vis}{stops:List Stp}{k:Nat}{x:Vis}{s:Stp}(hx:vs[k]?=some x)(hs:stops[k]?=some s)(e:x.stop≠s):vs.map (·.stop)≠stops:=by
 intro h;have h1:(vs.map (·.stop))[k]?=some x.stop:=by rw[List.getElem?_map,hx];rfl
 rw[h,hs]at h1;injection h1 with h1;exact e h1.symm
theorem o_n{vs:List Vis}{stops:List Stp}{k:Nat}(h:(vs.take k).map (·.stop)=stops.take k)(h1:vs.length≤k)(h2:stops.length≤k):vs.map (·.stop)=stops:=by
 rw[List.take_of_length_le h1,List.take_of_length_le h2]at h;exact h
theorem m_y(A:Option Addr)(n c:Nat)(vs:List Vis)(A3:Option Addr)(n3 c3:Nat)(stops:List Stp)(b:Bool)(w:World)(hv:Viss w w.heap.size A n vs)(hs:Stps w w.heap.size A3 n3 stops)(hb:decide (vs.map (·.stop)=stops)=b):
 Calls Tryz.prog 184 #[.slice A n c,.slice A3 n3 c3,.func (.func 185) #[] #[]] w (a_y w (.bool b)):=by
 have hm:=Recs.le hv;have hm3:=Recs.le hs;have HV:=Lib.hid hv;have HST:=Lib.hid hs;have HL:=Lib.hid hv.length;have HL3:=Lib.hid hs.length;have HB:=Lib.hid hb;clear hv hs hb;go_enter Tryz.func184,Tryz.ntmps184;by_cases hlen:n=n3
 case neg=>
  have HF:Hid (false=b):=by
   show _=_;rw[← HB.out,decide_eq_false (fun e=>hlen (by rw[← HL.out,←HL3.out,←e,List.length_map]))]
  have e1:((n:Int) != (n3:Int))=true:=by simp only[bne_iff_ne,ne_eq];omega
  clear hlen;go_wp2_with fail
  go_ret;exact⟨a_j HF.out,Below.refl _ _⟩
 subst hlen;go_wp2_with fail
 go_loopw [17] (fun i wr=>∃k:Nat,k≤n∧i=.int .i64 k∧Hid (Below w.heap.size w wr)∧Hid ((vs.take k).map (·.stop)=stops.take k)) (fun i _=>n-(intOf i).toNat)
 case atStart=>exact⟨0,Nat.zero_le _,rfl,Below.refl _ _,Lib.hid rfl⟩
 case round=>
  obtain⟨k,hk,rfl,HBW,HK⟩:=hrel;by_cases hlt:k<n
  ·obtain⟨b1,off1,x,rfl,hbb1,hx,_,c0,c1,c2,c3',c4,c5⟩:=Viss.at_ (Recs.keep HV.out HBW.out) hlt
   obtain⟨b2,off2,s,rfl,hbb2,hs,_,d0,d1⟩:=Stps.at_ (Recs.keep HST.out HBW.out) hlt;have HX:=Lib.hid hx;have HSX:=Lib.hid hs;obtain⟨t,ht⟩:∃t,decide (x.stop=s)=t:=⟨_,rfl⟩;have HT:=Lib.hid ht;have HBX:Hid (Below w.heap.size w ((wr.alloc (.cells #[.int .i64 x.stop.ord,.bool x.stop.drop,.int .i64 x.arrive,.int .i64 x.start,.int .i64 x.leave,.int .i64 x.load] 245)).alloc (.cells #[.int .i64 s.ord,.bool s.drop] 48))):=(HBW.out.alloc HBW.out.size _).alloc (HBW.out.alloc HBW.out.size (.cells #[.int .i64 x.stop.ord,.bool x.stop.drop,.int .i64 x.arrive,.int .i64 x.start,.int .i64 x.leave,.int .i64 x.load] 245)).size _;have HBY:Hid (Below wr.heap.size wr (wr.alloc (.cells #[.int .i64 x.stop.ord,.bool x.stop.drop,.int .i64 x.arrive,.int .i64 x.start,.int .i64 x.leave,.int .i64 x.load] 245))):=(Below.refl _ _).alloc (Nat.le_refl _) _;have HS2:=HST.out.keep (HBW.out.trans (HBY.out.mono HBW.out.size));obtain⟨b3,off3,s3,hA3,_,hs3,_,g0,g1⟩:=Stps.at_ HS2 hlt;injection hA3 with hA3;injection hA3 with hA3 hA4;subst hA3;subst hA4;rw[hs]at hs3;injection hs3 with hs3;subst hs3;clear hx hs ht HS2;go_wp2_with fail
   refine(k_g x s t _ HT.out).mono ?_;rintro e w' ⟨rfl,hb2⟩;have HB2:=Lib.hid (HBX.out.trans (hb2.mono HBX.out.size));clear hb2 HBX HBY c0 c1 c2 c3' c4 c5 d0 d1 g0 g1;cases t with
   |true=>
    have HN:=Lib.hid (m_x HK.out HX.out HSX.out (of_decide_eq_true HT.out));clear HK;go_wp2_with fail
    go_roundw
    case rel=>exact⟨k+1,by omega,by go_num,HB2,HN⟩
    case measure=>simp[intOf];omega
   |false=>
    have HF:Hid (false=b):=by
     show _=_;rw[← HB.out,decide_eq_false (o_m HX.out HSX.out (of_decide_eq_false HT.out))]
    clear HK;go_wp2_with fail
    go_ret;exact⟨a_j HF.out,HB2.out⟩
  ·have HF:Hid (true=b):=by
    show _=_;rw[← HB.out,decide_eq_true (o_n HK.out (by have:=HL.out;omega) (by have:=HL3.out;omega))]
   clear HK;go_wp2_with fail
   go_ret;exact⟨a_j HF.out,HBW.out⟩
def d_n(si:Site)(x:Vis):Bool:=
 match a_3 si.win x.arrive with
 |none=>false
 |some b=>decide (x.start=b) && decide (x.leave=b+si.serv)
theorem d_o{si:Site}{x:Vis}{v:Int}(h:a_3 si.win x.arrive=some v):d_n si x=(decide (x.start=v) && decide (x.leave=v+si.serv)):=by unfold d_n;rw[h]
theorem f_c{si:Site}{x:Vis}(h:a_3 si.win x.arrive=none):d_n si x=false:=by unfold d_n;rw[h]
theorem k_h(si:Site)(x:Vis)(b:Bool)(w:World)(sv1:0≤si.serv)(sv2:si.serv≤1000000)(hb:d_n si x=b):
 Calls Tryz.prog 227 #[h_7 si,visV x] w (a_y w (.bool b)):=by
 obtain⟨u0,hu0⟩:∃u,(w.alloc (.cells #[.int .i64 si.place,.int .i64 si.win.fr,.int .i64 si.win.to,.int .i64 si.serv] 29)).alloc (.cells #[.int .i64 x.stop.ord,.bool x.stop.drop,.int .i64 x.arrive,.int .i64 x.start,.int .i64 x.leave,.int .i64 x.load] 245)=u:=⟨_,rfl⟩;have b1:Below w.heap.size w (w.alloc (.cells #[.int .i64 si.place,.int .i64 si.win.fr,.int .i64 si.win.to,.int .i64 si.serv] 29)):=(Below.refl _ _).alloc (Nat.le_refl _) _;have HB0:Hid (Below w.heap.size w u0):=by rw[← hu0];exact b1.alloc b1.size _
 have HX0:Hid (SBox u0 w.heap.size si):=by
  rw[← hu0];exact SBox.below (s:=si) (Blk.new w _ _) ((Below.refl _ _).alloc (Nat.le_refl _) _)
 have HV0:Hid (VBox u0 (w.heap.size+1) x):=by
  have f:=Blk.new (w.alloc (.cells #[.int .i64 si.place,.int .i64 si.win.fr,.int .i64 si.win.to,.int .i64 si.serv] 29)) 245 [.int .i64 x.stop.ord,.bool x.stop.drop,.int .i64 x.arrive,.int .i64 x.start,.int .i64 x.leave,.int .i64 x.load];rw[World.size_alloc]at f;rw[← hu0];exact f
 have HV:=Lib.hid hb;clear hb b1;go_enter Tryz.func227,Tryz.ntmps227;go_upto_region 1 with fail
 clear hu0;obtain⟨c0,c1,c2,c3⟩:=HX0.out.cells;obtain⟨v0,v1,v2,v3,v4,v5⟩:=HV0.out.cells;cases hq:a_3 si.win x.arrive with
 |none=>
  have HQ:Hid (optV (a_3 si.win x.arrive)=.tuple #[.int .i64 0,.bool false]):=by rw[hq];rfl
  have HF:Hid (false=b):=by show _=_;rw[← HV.out,f_c hq]
  clear hq;go_wp2_with fail
  refine(f_G si.win x.arrive 0 false _ HQ.out).mono ?_;rintro e w2 ⟨rfl,hb2⟩;have HB2:=Lib.hid (HB0.out.trans (hb2.mono HB0.out.size));clear hb2 c0 c1 c2 c3 v0 v1 v2 v3 v4 v5;go_wp2_with fail
  go_ret;exact⟨a_j HF.out,HB2.out⟩
 |some v=>
  have HQ:Hid (optV (a_3 si.win x.arrive)=.tuple #[.int .i64 v,.bool true]):=by rw[hq];rfl
  obtain⟨q1,q2,q3,q4,q5⟩:=c_c hq;have q6:=right_iff.1 (has_iff.1 q1).1;have q7:v≤1000000:=by omega
  have q8:0≤v:=by omega
  have HVV:=Lib.hid (HV.out.symm.trans (d_o hq));clear hq q1 q2 q3 q4 q5 q6;go_wp2_with fail
  refine(f_G si.win x.arrive v true _ HQ.out).mono ?_;rintro e w2 ⟨rfl,hb2⟩;have HB2:=Lib.hid (HB0.out.trans (hb2.mono HB0.out.size));have HX2:=Lib.hid (HX0.out.below hb2);have HV2:=Lib.hid (HV0.out.below hb2);clear hb2 HB0 HX0 HV0 c0 c1 c2 c3 v0 v1 v2 v3 v4 v5;obtain⟨c0,c1,c2,c3⟩:=HX2.out.cells;obtain⟨v0,v1,v2,v3,v4,v5⟩:=HV2.out.cells;by_cases h1:x.start=v
  ·have e1:(x.start==v)=true:=by simpa using h1
   by_cases h2:x.leave=v+si.serv
   ·have e2:(x.leave==v+si.serv)=true:=by simpa using h2
    have HF:Hid (true=b):=by show _=_;rw[HVV.out,decide_eq_true h1,decide_eq_true h2];rfl
    clear h1 h2;go_wp2_with fail
    go_ret;exact⟨a_j HF.out,HB2.out⟩
   ·have e2:(x.leave==v+si.serv)=false:=by simpa using h2
    have HF:Hid (false=b):=by show _=_;rw[HVV.out,decide_eq_false h2,Bool.and_false]
    clear h1 h2;go_wp2_with fail
    go_ret;exact⟨a_j HF.out,HB2.out⟩
  ·have e1:(x.start==v)=false:=by simpa using h1
   have HF:Hid (false=b):=by show _=_;rw[HVV.out,decide_eq_false h1,Bool.false_and]
   clear h1;go_wp2_with fail
   go_ret;exact⟨a_j HF.out,HB2.out⟩
abbrev rteV(x:RM):Value:=.agg #[.int .i64 x.rt.drv,.int .i64 x.rt.served,.slice x.a x.n x.c]
def RBox(u:World)(g:Nat)(x:RM):Prop:=Blk u g 37 [.int .i64 x.rt.drv,.int .i64 x.rt.served,.slice x.a x.n x.c]
theorem RBox.below{u u':World}{g:Nat}{x:RM}(h:RBox u g x)(hb:Below u.heap.size u u'):RBox u' g x:=Blk.below h hb (Blk.lt h)
theorem RBox.cells{u:World}{g:Nat}{x:RM}(h:RBox u g x):u.cell? ⟨g,0,none⟩=some (.int .i64 x.rt.drv)∧u.cell? ⟨g,1,none⟩=some (.int .i64 x.rt.served)∧u.cell? ⟨g,2,none⟩=some (.slice x.a x.n x.c):=⟨Blk.cell h rfl,Blk.cell h rfl,Blk.cell h rfl⟩
structure DS(w:World)(q A:Option Addr)(n c:Nat)(A2:Option Addr)(n2 c2:Nat)(x:RM)(u:World):Prop where
 old:Below w.heap.size w u
 box:FlBox u w.heap.size q A n c A2 n2 c2
 rte:RBox u (w.heap.size+1) x
abbrev WD(w:World)(q A:Option Addr)(n c:Nat)(A2:Option Addr)(n2 c2:Nat)(x:RM):World:=
 (w.alloc (.cells #[.pointer q,.slice A n c,.slice A2 n2 c2] 163)).alloc (.cells #[.int .i64 x.rt.drv,.int .i64 x.rt.served,.slice x.a x.n x.c] 37)
section
variable {w u u' : World} {q A A2 : Option Addr} {n c n2 c2 : Nat} {x : RM}
theorem DS.next(h:DS w q A n c A2 n2 c2 x u)(hb:Below u.heap.size u u'):DS w q A n c A2 n2 c2 x u':=⟨h.old.trans (hb.mono h.old.size),h.box.below hb,h.rte.below hb⟩
theorem DS.size(h:DS w q A n c A2 n2 c2 x u):w.heap.size+2≤u.heap.size:=Blk.lt h.rte
theorem DS.start:DS w q A n c A2 n2 c2 x (WD w q A n c A2 n2 c2 x):=by
 have b1:Below w.heap.size w (w.alloc (.cells #[.pointer q,.slice A n c,.slice A2 n2 c2] 163)):=(Below.refl _ _).alloc (Nat.le_refl _) _;have f1:FlBox (w.alloc (.cells #[.pointer q,.slice A n c,.slice A2 n2 c2] 163)) w.heap.size q A n c A2 n2 c2:=Blk.new w _ _;have f2:=Blk.new (w.alloc (.cells #[.pointer q,.slice A n c,.slice A2 n2 c2] 163)) 37 [.int .i64 x.rt.drv,.int .i64 x.rt.served,.slice x.a x.n x.c];rw[World.size_alloc]at f2;exact⟨b1.alloc b1.size _,f1.below ((Below.refl _ _).alloc (Nat.le_refl _) _),f2⟩
end
def d_p(m:Option Mp)(ds:List Drv)(os:List FleetMath.Ord)(r:Rte):List Vis×Int:=
 match a_o ds r.drv with
 |none=>([],8)
 |some d=>((a_J m d os r.stops).1,(a_J m d os r.stops).2.2)
theorem c_6{m:Option Mp}{ds:List Drv}{os:List FleetMath.Ord}{r:Rte}(h:a_o ds r.drv=none):d_p m ds os r=([],8):=by unfold d_p;rw[h]
theorem c_7{m:Option Mp}{ds:List Drv}{os:List FleetMath.Ord}{r:Rte}{d:Drv}(h:a_o ds r.drv=some d):d_p m ds os r=((a_J m d os r.stops).1,(a_J m d os r.stops).2.2):=by unfold d_p;rw[h]
def r_6(w:World)(r:List Vis×Int)(e:Ending)(w':World):Prop:=
 ∃B c,e=.returned (.tuple #[.slice B r.1.length c,.int .i64 r.2])∧Below w.heap.size w w'∧OwnK w' w.heap.size 245 6 (.slice B r.1.length c) r.1.length (c_p r.1)
theorem h_e{w w':World}{r:List Vis×Int}{B:Option Addr}{c:Nat}{vs:List Vis}{e:Int}(h:r=(vs,e))(hb:Below w.heap.size w w')(ho:OwnK w' w.heap.size 245 6 (.slice B vs.length c) vs.length (c_p vs)):
 r_6 w r (.returned (.tuple #[.slice B vs.length c,.int .i64 e])) w':=by subst h;exact⟨B,c,rfl,hb,ho⟩
theorem m_z(base:Nat)(q:Option Addr)(m:Option Mp)(A:Option Addr)(n c:Nat)(ds:List Drv)(A2:Option Addr)(n2 c2:Nat)(os:List FleetMath.Ord)(x:RM)(w:World)(hnc2:n2≤c2)(hxc:x.n≤x.c)
 (h:MapP w 92 base (.pointer q) m) (hd:Drvs w w.heap.size A n ds) (ho:Ords w w.heap.size A2 n2 os) (hs:Stps w w.heap.size x.a x.n x.rt.stops):
 Calls Tryz.prog 101 #[d_m q A n c A2 n2 c2,rteV x] w (r_6 w (d_p m ds os x.rt)):=by
 have HM:=Lib.hid h;have HD:=Lib.hid hd;have HO:=Lib.hid ho;have HST:=Lib.hid hs;obtain⟨r,hr⟩:∃r,d_p m ds os x.rt=r:=⟨_,rfl⟩;rw[hr];have HR:=Lib.hid hr;obtain⟨od,hod⟩:∃r,a_o ds x.rt.drv=r:=⟨_,rfl⟩;have HOD:=Lib.hid hod;have S0:Hid (DS w q A n c A2 n2 c2 x (WD w q A n c A2 n2 c2 x)):=DS.start;clear h hd ho hs hr hod;go_enter Tryz.func101,Tryz.ntmps101;obtain⟨f0,f1,f2⟩:=S0.out.box.cells;obtain⟨r0,r1,r2⟩:=S0.out.rte.cells;go_wp2_with fail
 refine(d_1 A n c ds x.rt.drv od _ (by exact Recs.more (Recs.keep HD.out S0.out.old) S0.out.old.size) HOD.out).mono ?_;rintro e w1 ⟨rfl,hb⟩;have S1:=Lib.hid (S0.out.next hb);clear hb S0 f0 f1 f2 r0 r1 r2;cases od with
 |none=>
  have hv:f_s none=.tuple #[drvV drv0,.bool false]:=rfl;rw[hv];clear hv;have HF:Hid (r=([],8)):=by show _=_;rw[← HR.out];exact c_6 HOD.out
  have HB:=Lib.hid (S1.out.old.alloc S1.out.old.size (.cells #[.int .i64 0,.int .i64 0,.int .i64 0,.int .i64 0,.int .i64 0,.bool false] 33));go_wp2_with fail
  go_ret2
  exact h_e (vs:=[]) HF.out HB.out (OwnK.nil _ _ _ _)
 |some d=>
  have hv:f_s (some d)=.tuple #[drvV d,.bool true]:=rfl;rw[hv];clear hv;obtain⟨⟨vs,fk,fe⟩,hdr⟩:∃z,a_J m d os x.rt.stops=z:=⟨_,rfl⟩;have HDR:=Lib.hid hdr;have HF:Hid (r=(vs,fe)):=by show _=_;rw[← HR.out,c_7 HOD.out,hdr]
  have S2:Hid (DS w q A n c A2 n2 c2 x (w1.alloc (.cells #[.int .i64 d.id,.int .i64 d.room,.int .i64 d.home,.int .i64 d.win.fr,.int .i64 d.win.to,.bool d.retired] 33))):=S1.out.next ((Below.refl _ _).alloc (Nat.le_refl _) _);have HX2:Hid (DBox (w1.alloc (.cells #[.int .i64 d.id,.int .i64 d.room,.int .i64 d.home,.int .i64 d.win.fr,.int .i64 d.win.to,.bool d.retired] 33)) w1.heap.size d):=Blk.new w1 _ _;obtain⟨gd,hgd⟩:∃g,w1.heap.size=g:=⟨_,rfl⟩;obtain⟨w2,hw2⟩:∃u,w1.alloc (.cells #[.int .i64 d.id,.int .i64 d.room,.int .i64 d.home,.int .i64 d.win.fr,.int .i64 d.win.to,.bool d.retired] 33)=u:=⟨_,rfl⟩;clear hdr;go_upto_region 2 with fail
  rw[hgd]at HX2;rw[hw2]at S2 HX2;clear hw2 hgd S1;obtain⟨f0,f1,f2⟩:=S2.out.box.cells;obtain⟨r0,r1,r2⟩:=S2.out.rte.cells;obtain⟨d0,d1,d2,d3,d4,d5⟩:=HX2.out.cells;go_wp2_with fail
  refine(h_D base (.pointer q) m d A2 n2 c2 os x.a x.n x.c x.rt.stops _ (by exact HM.out.keep S2.out.old) (by exact Recs.more (Recs.keep HO.out S2.out.old) S2.out.old.size) (by exact Recs.more (Recs.keep HST.out S2.out.old) S2.out.old.size) hxc hnc2).mono ?_;rintro e2 w3 ⟨hb3,v3,rfl,hv3⟩;rw[HDR.out]at hv3 ⊢;obtain⟨B3,c3,rfl,_,hx3⟩:=hv3.read;clear hx3;have F3:Hid (FBox (w3.alloc (.cells #[.int .i64 fk,.int .i64 fe] 108)) w3.heap.size fk fe):=Blk.new w3 _ _;have HB3:=Lib.hid ((S2.out.old.trans (hb3.mono S2.out.old.size)).alloc (S2.out.old.trans (hb3.mono S2.out.old.size)).size (.cells #[.int .i64 fk,.int .i64 fe] 108));have HOW:Hid (OwnK (w3.alloc (.cells #[.int .i64 fk,.int .i64 fe] 108)) w.heap.size 245 6 (.slice B3 vs.length c3) vs.length (c_p vs)):=(hv3.alloc _).lower S2.out.old.size;clear hb3 hv3 S2 HX2 f0 f1 f2 r0 r1 r2 d0 d1 d2 d3 d4 d5;obtain⟨x0,x1⟩:=F3.out.cells;go_wp2_with fail
  refine(l_A fk fe _).mono ?_;rintro e2 w4 ⟨rfl,hb4⟩;have HB4:=Lib.hid (HB3.out.trans (hb4.mono HB3.out.size));have HO4:=Lib.hid (HOW.out.keep hb4 (Nat.le_refl _));clear hb4 HB3 HOW x0 x1;go_wp2_with fail
  go_ret2
  exact h_e HF.out HB4.out HO4.out
end Cert
end Go.Proofs.YtkpnmpjnpcjohaaGreat
