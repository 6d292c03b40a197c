import Derived.Test.YtkpnmpjnpcjohaaGreatRepairBs
import Derived.WalkMore
set_option linter.unusedSimpArgs false
set_option linter.unusedVariables false
set_option maxHeartbeats 16000000
set_option maxRecDepth 100000
namespace Go.Proofs.YtkpnmpjnpcjohaaGreat
open ChangeShapes WideShapes ChangeAt RowKit Mem GeoMath FleetMath PlanMath CertMath AuditMath InsertMath RepairMath Rec Geo Span Deal Route Plan Cert Go.Proofs.YtkpnmpjnpcjohaaGreat.Insert
namespace RepairW
def BlBox(u:World)(g:Nat)(B:Option Addr)(k c:Nat)(t:Int):Prop:=Blk u g 208 [.slice B k c,.int .i64 t]
theorem BlBox.below{u u':World}{g:Nat}{B:Option Addr}{k c:Nat}{t:Int}(h:BlBox u g B k c t)(hb:Below u.heap.size u u'):BlBox u' g B k c t:=Blk.below h hb (Blk.lt h)
theorem BlBox.cells{u:World}{g:Nat}{B:Option Addr}{k c:Nat}{t:Int}(h:BlBox u g B k c t):u.cell? ⟨g,0,none⟩=some (.slice B k c)∧u.cell? ⟨g,1,none⟩=some (.int .i64 t):=⟨Blk.cell h rfl,Blk.cell h rfl⟩
abbrev g_2(u:World)(g:Nat)(B:Option Addr)(k c:Nat)(t:Int):World:=(u.setCell ⟨g,0,none⟩ (.slice B k c)).setCell ⟨g,1,none⟩ (.int .i64 t)
theorem e_G{u:World}{g:Nat}{B0:Option Addr}{k0 c0:Nat}{t0:Int}(h:BlBox u g B0 k0 c0 t0)(B:Option Addr)(k c:Nat)(t:Int):BlBox (g_2 u g B k c t) g B k c t:=((Blk.put h 0 (.slice B k c)).put 1 (.int .i64 t))
theorem d_c{D:Nat}{w u:World}{g:Nat}(h:Below D w u)(hg:D≤g)(B:Option Addr)(k c:Nat)(t:Int):Below D w (g_2 u g B k c t):=((h.setCell hg _).setCell hg _)
theorem c_t(u:World)(g:Nat)(B:Option Addr)(k c:Nat)(t:Int):Only g u (g_2 u g B k c t):=((Only.refl g u).set 0 _).set 1 _
theorem _root_.Go.Proofs.YtkpnmpjnpcjohaaGreat.Mem.Recs.only{u u':World}{D g n k:Nat}{A:Option Addr}{vs:List Value}{t:TypeId}{cs:List Value}(h:Recs u D A n k vs)(ho:Only g u u')(hb:Blk u g t cs)(hx:0<n→∀off:Nat,∃(j:Nat) (v:Value),vs[j]?=some v∧cs[off+j]?≠some v):Recs u' D A n k vs:=by
 obtain⟨h1,h2,h3⟩:=h;refine⟨h1,h2,fun hn=>?_⟩;obtain⟨b,off,e,hlt,hc⟩:=h3 hn
 have hne:b≠g:=by
  intro e2;subst e2;obtain⟨j,v,hj,hjn⟩:=hx hn off;have h4:=hc j v hj;refine hjn ?_;have h5:u.heap[b]?=some (.cells cs.toArray t (0,0)):=hb;simpa[World.cell?,h5]using h4
 refine⟨b,off,e,hlt,fun j v hj=>?_⟩;have h4:=hc j v hj;have h5:=ho.other b hne;unfold World.cell? at h4 ⊢;rw[h5];exact h4
theorem p_5{cs vs:List Value}{n k:Nat}(hl:vs.length=n*k)(hn:0<n)(hk:cs.length<k)(off:Nat):∃(j:Nat) (v:Value),vs[j]?=some v∧cs[off+j]?≠some v:=by
 have h1:1*k≤n*k:=Nat.mul_le_mul_right _ hn;have h2:k-1<vs.length:=by omega
 refine⟨k-1,vs[k-1],List.getElem?_eq_getElem h2,?_⟩;rw[List.getElem?_eq_none (by omega)];intro e;cases e
theorem Ords.only{u u':World}{D g n:Nat}{A:Option Addr}{l:List FleetMath.Ord}{B:Option Addr}{k c:Nat}{t:Int}(h:Ords u D A n l)(ho:Only g u u')(hb:BlBox u g B k c t):Ords u' D A n l:=
 Recs.only h ho hb fun hn off=>p_5 h.1 hn (by simp) off
theorem Stps.only{u u':World}{D g n:Nat}{A:Option Addr}{l:List Stp}{B:Option Addr}{k c:Nat}{t:Int}(h:Stps u D A n l)(ho:Only g u u')(hb:BlBox u g B k c t):Stps u' D A n l:=by
 refine Recs.only h ho hb fun hn off=>?_;have hl:=Stps.length h;cases l with
 |nil=>simp at hl;omega
 |cons x r=>
  rcases Nat.eq_zero_or_pos off with h0|h0
  ·subst h0
   exact⟨0,.int .i64 x.ord,rfl,by simp⟩
  ·refine⟨1,.bool x.drop,rfl,?_⟩
   rw[List.getElem?_eq_none (by simp;omega)];intro e;cases e
theorem _root_.Go.Proofs.YtkpnmpjnpcjohaaGreat.Rec.Plns.only {u u':World} {D g n:Nat} {A:Option Addr} {l:List RM} {B:Option Addr} {k c:Nat} {t:Int} (h:Plns u D A n l) (ho:Only g u u') (hb:BlBox u g B k c t):Plns u' D A n l:=
 ⟨Recs.only h.rows ho hb fun hn off=>p_5 h.rows.1 hn (by simp) off,fun r hr=>⟨Stps.only (h.each r hr).1 ho hb,(h.each r hr).2⟩⟩
structure PW(w:World)(q A:Option Addr)(n c:Nat)(A2:Option Addr)(n2 c2:Nat)(BL:Option Addr)(lo:List FleetMath.Ord)(p:List Rte)(t:Int)(B:Option Addr)(k cc:Nat)(l:List RM)(u:World):Prop where
 old:Below w.heap.size w u
 flt:RfBox u w.heap.size q A n c A2 n2 c2
 bill:BlBox u (w.heap.size+1) B k cc t
 res:BlBox u (w.heap.size+2) none 0 0 0
 ids:Ords u u.heap.size BL n2 lo
 plan:Plns u u.heap.size B k l
 out:l.map (·.rt)=p
 cap:k≤cc
section
variable {w u u' : World} {q A A2 BL B : Option Addr} {n c n2 c2 k cc : Nat} {lo : List FleetMath.Ord} {p : List Rte} {t : Int} {l : List RM}
theorem PW.next(h:PW w q A n c A2 n2 c2 BL lo p t B k cc l u)(hb:Below u.heap.size u u'):PW w q A n c A2 n2 c2 BL lo p t B k cc l u':=
 ⟨h.old.trans (hb.mono h.old.size),h.flt.below hb,h.bill.below hb,h.res.below hb,Recs.more (Recs.keep h.ids hb) hb.size,(h.plan.keep hb).more hb.size,h.out,h.cap⟩
theorem PW.put{p':List Rte}{t':Int}{B':Option Addr}{k' cc':Nat}{l':List RM}(h:PW w q A n c A2 n2 c2 BL lo p t B k cc l u)(hp:Plns u u.heap.size B' k' l')(ho:l'.map (·.rt)=p')(hc:k'≤cc'):PW w q A n c A2 n2 c2 BL lo p' t' B' k' cc' l' (g_2 u (w.heap.size+1) B' k' cc' t'):=by
 have hon:=c_t u (w.heap.size+1) B' k' cc' t';have hsz:(g_2 u (w.heap.size+1) B' k' cc' t').heap.size=u.heap.size:=hon.size;refine⟨d_c h.old (by omega) _ _ _ _,hon.blk h.flt (by omega),e_G h.bill _ _ _ _,hon.blk h.res (by omega),?_,?_,ho,hc⟩
 ·rw[hsz];exact Ords.only h.ids hon h.bill
 ·rw[hsz];exact hp.only hon h.bill
end
def r_Q(w:World)(st:PSt)(e:Ending)(w':World):Prop:=∃B k c' l',e=.returned (.tuple #[.agg #[.slice B k c',.int .i64 st.total],.int .i64 ((st.steps:Nat):Int)])∧Below w.heap.size w w'∧Plns w' w'.heap.size B k l'∧l'.map (·.rt)=st.out∧k≤c'
theorem p_6(m:Option Mp)(ds:List Drv)(os:List FleetMath.Ord)(p:List Rte):∃a b,optV (a_z m ds os p)=.tuple #[.int .i64 a,.bool b]∧(b=true→a_z m ds os p=some a)∧(b=false→a_z m ds os p=none):=by
 cases h:a_z m ds os p with
 |none=>exact⟨0,false,rfl,(fun h=>nomatch h),fun _=>rfl⟩
 |some t=>exact⟨t,true,rfl,fun _=>rfl,(fun h=>nomatch h)⟩
theorem n_G (base:Nat) (q:Option Addr) (m:Option Mp) (A:Option Addr) (n c:Nat) (ds:List Drv) (A2:Option Addr) (n2 c2:Nat) (os:List FleetMath.Ord) (A3:Option Addr) (n3 c3:Nat) (l:List RM) (t:Int) (b:Nat) (R:PSt) (w:World) (hnc:n≤c) (hnc2:n2≤c2) (hnc3:n3≤c3)
 (h:MapP w 92 base (.pointer q) m) (hd:Drvs w w.heap.size A n ds) (ho:Ords w w.heap.size A2 n2 os) (hl:Plns w w.heap.size A3 n3 l) (h80:n2*80≤140737488351232) (ht:a_z m ds os (l.map (·.rt))=some t) (hb:b≤100000) (hR:d_Y m ds os b ⟨l.map (·.rt),t,0⟩=R):
 Calls Tryz.prog 143 #[rfV q A n c A2 n2 c2,.agg #[.slice A3 n3 c3,.int .i64 t],.int .i64 (b:Int)] w (r_Q w R):=by
 have HM:=Lib.hid h
 have HD:=Lib.hid hd
 have HO:=Lib.hid ho
 have hlo:os.length=n2:=Ords.length ho
 have hm2:=Recs.le ho
 have HRR:=Lib.hid hR
 have hkn:=(a_K (d_R ht).1)
 have HK:Hid (a_V m os=true):=by obtain ⟨_,_,_,hk,_,_,_⟩:=hkn;exact hk
 have HINV:Hid (∀ l' k,PInv m ds os (l.map (·.rt)) t b (c_C m ds os b ⟨l.map (·.rt),t,0⟩ l' k)):=fun l' k=>n_N ht l' k
 have b0':∀(u:World) (ob:Obj),Below u.heap.size u (u.alloc ob):=fun u ob=>(Below.refl _ _).alloc (Nat.le_refl _) _
 have hs3:Below w.heap.size w (((w.alloc (.cells #[.pointer q,.slice A n c,.slice A2 n2 c2] 142)).alloc (.cells #[.slice A3 n3 c3,.int .i64 t] 208)).alloc (.cells #[.slice none 0 0,.int .i64 0] 208))∧RfBox (((w.alloc (.cells #[.pointer q,.slice A n c,.slice A2 n2 c2] 142)).alloc (.cells #[.slice A3 n3 c3,.int .i64 t] 208)).alloc (.cells #[.slice none 0 0,.int .i64 0] 208)) w.heap.size q A n c A2 n2 c2∧BlBox (((w.alloc (.cells #[.pointer q,.slice A n c,.slice A2 n2 c2] 142)).alloc (.cells #[.slice A3 n3 c3,.int .i64 t] 208)).alloc (.cells #[.slice none 0 0,.int .i64 0] 208)) (w.heap.size+1) A3 n3 c3 t∧BlBox (((w.alloc (.cells #[.pointer q,.slice A n c,.slice A2 n2 c2] 142)).alloc (.cells #[.slice A3 n3 c3,.int .i64 t] 208)).alloc (.cells #[.slice none 0 0,.int .i64 0] 208)) (w.heap.size+2) none 0 0 0:=by
  have f0:=RfBox.new w q A n c A2 n2 c2
  obtain ⟨w1,h1⟩:∃u,w.alloc (.cells #[.pointer q,.slice A n c,.slice A2 n2 c2] 142)=u:=⟨_,rfl⟩
  have z1:w1.heap.size=w.heap.size+1:=by rw [← h1];simp
  have o1:Below w.heap.size w w1:=by rw [← h1];exact b0' _ _
  rw [h1] at f0 ⊢
  have f1:BlBox (w1.alloc (.cells #[.slice A3 n3 c3,.int .i64 t] 208)) w1.heap.size A3 n3 c3 t:=Blk.new w1 _ _
  rw [z1] at f1
  obtain ⟨w2,h2⟩:∃u,w1.alloc (.cells #[.slice A3 n3 c3,.int .i64 t] 208)=u:=⟨_,rfl⟩
  have z2:w2.heap.size=w.heap.size+2:=by rw [← h2];simp [z1]
  have o2:Below w1.heap.size w1 w2:=by rw [← h2];exact b0' _ _
  rw [h2] at f1 ⊢
  have f2:BlBox (w2.alloc (.cells #[.slice none 0 0,.int .i64 0] 208)) w2.heap.size none 0 0 0:=Blk.new w2 _ _
  rw [z2] at f2
  have o3:Below w2.heap.size w2 (w2.alloc (.cells #[.slice none 0 0,.int .i64 0] 208)):=b0' _ _
  exact ⟨(o1.trans (o2.mono (by omega))).trans (o3.mono (by omega)),(f0.below o2).below o3,f1.below o3,f2⟩
 have HS3:=Lib.hid hs3
 have HP3:Hid (Plns (((w.alloc (.cells #[.pointer q,.slice A n c,.slice A2 n2 c2] 142)).alloc (.cells #[.slice A3 n3 c3,.int .i64 t] 208)).alloc (.cells #[.slice none 0 0,.int .i64 0] 208)) (((w.alloc (.cells #[.pointer q,.slice A n c,.slice A2 n2 c2] 142)).alloc (.cells #[.slice A3 n3 c3,.int .i64 t] 208)).alloc (.cells #[.slice none 0 0,.int .i64 0] 208)).heap.size A3 n3 l):=(hl.keep hs3.1).more hs3.1.size
 clear h hd ho hl hR hs3 hkn b0'
 go_enter Tryz.func143,Tryz.ntmps143
 go_wp2_with fail
 go_step3
 go_upto_region 1 with fail
 (try simp only [World.size_alloc,Nat.add_assoc,Nat.reduceAdd])
 obtain ⟨X,hX⟩:∃u,(((w.alloc (.cells #[.pointer q,.slice A n c,.slice A2 n2 c2] 142)).alloc (.cells #[.slice A3 n3 c3,.int .i64 t] 208)).alloc (.cells #[.slice none 0 0,.int .i64 0] 208))=u:=⟨_,rfl⟩
 rw [hX] at HS3 HP3 ⊢
 clear hX
 obtain ⟨f0,f1,f2⟩:=HS3.out.2.1.cells
 go_wp2_with fail
 go_step3
 go_wp2_with fail
 refine (r_P A2 n2 c2 os X (Recs.more (Recs.keep HO.out HS3.out.1) HS3.out.1.size) h80 (j_L HK.out)).mono ?_
 rintro e w1 ⟨BL,cL,lo,rfl,hb1,hol,hperm,hsort⟩
 have HPW0:Hid (PW w q A n c A2 n2 c2 BL lo (l.map (·.rt)) t A3 n3 c3 l w1):=⟨HS3.out.1.trans (hb1.mono HS3.out.1.size),HS3.out.2.1.below hb1,HS3.out.2.2.1.below hb1,HS3.out.2.2.2.below hb1,hol,(HP3.out.keep hb1).more hb1.size,rfl,hnc3⟩
 have hll:lo.length=n2:=Ords.length hol
 have HIDS:Hid (lo.map (·.id)=idsM os):=t_E hperm hsort
 have HMEM:Hid (∀ o∈lo,o∈os):=fun o ho=>hperm.mem_iff.1 ho
 have HLL:=Lib.hid hll
 have HA0:Hid (c_C m ds os b ⟨l.map (·.rt),t,0⟩ lo 0=⟨l.map (·.rt),t,0⟩):=l_p
 obtain ⟨G,hG⟩:∃g,c_C m ds os b ⟨l.map (·.rt),t,0⟩ lo=g:=⟨_,rfl⟩
 have HINV':Hid (∀ k,PInv m ds os (l.map (·.rt)) t b (G k)):=fun k=>by rw [← hG];exact HINV.out lo k
 have HNXT:Hid (∀ k o,lo[k]?=some o→G (k+1)=a_B m ds os b (G k) o.id):=fun k o h=>by rw [← hG];exact l_q h
 have HALL:Hid (G n2=R):=by show _=_;rw [← HRR.out,←hG];exact n_M (by omega) HIDS.out
 have HFULL:Hid (∀ k,b≤(G k).steps→G k=R):=fun k hk=>by rw [← HRR.out,←hG] at *;exact l_r hk HIDS.out
 rw [hG] at HA0
 clear hb1 hol hperm hsort hll hlo hG HS3 HP3 f0 f1 f2 HINV HRR ht
 go_wp2_with fail
 go_loopw [8,19] (fun sv iv wr=>∃(k:Nat) (ST:PSt),k≤n2∧sv=.int .i64 ((ST.steps:Nat):Int)∧iv=.int .i64 (k:Int)∧Hid (G k=ST)∧Hid (∃ bb kk cc ll,PW w q A n c A2 n2 c2 BL lo ST.out ST.total bb kk cc ll wr)) (fun _ iv _=>n2-(intOf iv).toNat)
 case atStart=>exact ⟨0,⟨l.map (·.rt),t,0⟩,Nat.zero_le _,rfl,rfl,HA0,Lib.hid ⟨_,_,_,_,HPW0.out⟩⟩
 case round=>
  clear HPW0 HA0
  obtain ⟨k,ST,hk,rfl,rfl,HG,HPW⟩:=hrel
  by_cases hlt:k<n2
  case neg=>
   have HEND:Hid (ST=R):=by
    show _=_
    rw [← HG.out,←HALL.out,show k=n2 by omega]
   have e1:¬(k:Int)<(n2:Int):=by omega
   clear hlt
   obtain ⟨bb,kk,cc,ll,hpw⟩:=HPW.out
   have HQ:=Lib.hid hpw
   clear HPW hpw
   obtain ⟨b0,b1⟩:=BlBox.cells HQ.out.bill
   obtain ⟨r0,r1⟩:=BlBox.cells HQ.out.res
   have hcs:=a_c (w.heap.size+2)
   have hfs:=a_d
   have hff:=Blk.free HQ.out.res
   have HRS:=Lib.hid (BlBox.cells (e_G HQ.out.res bb kk cc ST.total))
   have HBR:=Lib.hid (d_c HQ.out.old (show w.heap.size≤w.heap.size+2 by omega) bb kk cc ST.total)
   have HPL:=Lib.hid ((HQ.out.plan.only (c_t _ (w.heap.size+2) bb kk cc ST.total) HQ.out.res).more (Nat.le_of_eq (c_t _ (w.heap.size+2) bb kk cc ST.total).size.symm))
   go_wp2_with fail
   (try rw [Exit.noGoto_ret])
   refine bodyPost_ret (v:=.tuple #[.agg #[.slice bb kk cc,.int .i64 ST.total],.int .i64 ((ST.steps:Nat):Int)]) ?_ rfl ⟨bb,kk,cc,ll,by rw [HEND.out],HBR.out,HPL.out,by rw [← HEND.out];exact HQ.out.out,HQ.out.cap⟩
   obtain ⟨q0,q1⟩:=HRS.out
   simp [results,Tryz.results143,go_sem,q0,q1]
  have hkk:(k:Int)<(n2:Int):=by omega
  obtain ⟨bb,kk,cc,ll,hpw⟩:=HPW.out
  have HQ:=Lib.hid hpw
  obtain ⟨ab,off,o,hBL,_,ho,_,c0,c1,c2',c3',c4,c5,c6,c7,c8,c9⟩:=Ords.at_ hpw.ids hlt
  subst hBL
  have HOK:=Lib.hid ho
  have b1:Below wr.heap.size wr (wr.alloc (.cells #[.int .i64 o.id,.int .i64 o.size,.int .i64 o.pick.place,.int .i64 o.pick.win.fr,.int .i64 o.pick.win.to,.int .i64 o.pick.serv,.int .i64 o.drop.place,.int .i64 o.drop.win.fr,.int .i64 o.drop.win.to,.int .i64 o.drop.serv] 31)):=(Below.refl _ _).alloc (Nat.le_refl _) _
  have HO1:Hid (OBox (wr.alloc (.cells #[.int .i64 o.id,.int .i64 o.size,.int .i64 o.pick.place,.int .i64 o.pick.win.fr,.int .i64 o.pick.win.to,.int .i64 o.pick.serv,.int .i64 o.drop.place,.int .i64 o.drop.win.fr,.int .i64 o.drop.win.to,.int .i64 o.drop.serv] 31)) wr.heap.size o):=Blk.new wr _ _
  have HQ1:=Lib.hid (HQ.out.next b1)
  clear hpw ho b1 HPW HQ
  go_upto_region 5 with fail
  clear c0 c1 c2' c3' c4 c5 c6 c7 c8 c9
  obtain ⟨w2,hw2⟩:∃u,wr.alloc (.cells #[.int .i64 o.id,.int .i64 o.size,.int .i64 o.pick.place,.int .i64 o.pick.win.fr,.int .i64 o.pick.win.to,.int .i64 o.pick.serv,.int .i64 o.drop.place,.int .i64 o.drop.win.fr,.int .i64 o.drop.win.to,.int .i64 o.drop.serv] 31)=u:=⟨_,rfl⟩
  obtain ⟨go,hgo⟩:∃g,wr.heap.size=g:=⟨_,rfl⟩
  rw [hw2] at HO1 HQ1 ⊢
  rw [hgo] at HO1 ⊢
  clear hw2 hgo
  have HIV:=Lib.hid (HINV'.out k)
  rw [HG.out] at HIV
  have HSB:Hid (ST.steps≤b):=HIV.out.steps
  by_cases hfull:b≤ST.steps
  ·have HEND:Hid (ST=R):=by
    show _=_
    rw [← HG.out]
    exact HFULL.out k (by rw [HG.out];exact hfull)
   have e1:(((ST.steps:Nat):Int)==(b:Int))=true:=by have:=HSB.out;simp;omega
   have HPW:Hid (∃ bb kk cc ll,PW w q A n c A2 n2 c2 (some ⟨ab,off,none⟩) lo ST.out ST.total bb kk cc ll w2):=Lib.hid ⟨_,_,_,_,HQ1.out⟩
   clear hfull HQ1 HO1
   clear bb kk cc ll
   obtain ⟨bb,kk,cc,ll,hpw⟩:=HPW.out
   have HQ:=Lib.hid hpw
   clear HPW hpw
   obtain ⟨b0,b1⟩:=BlBox.cells HQ.out.bill
   obtain ⟨r0,r1⟩:=BlBox.cells HQ.out.res
   have hcs:=a_c (w.heap.size+2)
   have hfs:=a_d
   have hff:=Blk.free HQ.out.res
   have HRS:=Lib.hid (BlBox.cells (e_G HQ.out.res bb kk cc ST.total))
   have HBR:=Lib.hid (d_c HQ.out.old (show w.heap.size≤w.heap.size+2 by omega) bb kk cc ST.total)
   have HPL:=Lib.hid ((HQ.out.plan.only (c_t _ (w.heap.size+2) bb kk cc ST.total) HQ.out.res).more (Nat.le_of_eq (c_t _ (w.heap.size+2) bb kk cc ST.total).size.symm))
   go_wp2_with fail
   (try rw [Exit.noGoto_ret])
   refine bodyPost_ret (v:=.tuple #[.agg #[.slice bb kk cc,.int .i64 ST.total],.int .i64 ((ST.steps:Nat):Int)]) ?_ rfl ⟨bb,kk,cc,ll,by rw [HEND.out],HBR.out,HPL.out,by rw [← HEND.out];exact HQ.out.out,HQ.out.cap⟩
   obtain ⟨q0,q1⟩:=HRS.out
   simp [results,Tryz.results143,go_sem,q0,q1]
  have hlts:ST.steps<b:=by omega
  have e1:(((ST.steps:Nat):Int)==(b:Int))=false:=by simp;omega
  have HSE:=Lib.hid (s_3 HIV.out.total (HMEM.out o (List.mem_of_getElem? HOK.out)) hlts)
  have HNX:Hid (G (k+1)=q_e m ds os b ST o):=by show _=_;rw [HNXT.out k o HOK.out,HG.out,HSE.out]
  have HIDB:Hid (1≤o.id∧o.id≤1000000):=j_L HK.out o (HMEM.out o (List.mem_of_getElem? HOK.out))
  have HRP:Hid (a_h ST.out=true):=c_B HIV.out.total
  obtain ⟨mv,hmv⟩:∃z,c_K ST.out o.id=z:=⟨_,rfl⟩
  have HMV:=Lib.hid hmv
  clear hmv hfull HSE
  obtain ⟨p0,-⟩:=BlBox.cells HQ1.out.bill
  obtain ⟨o0,-⟩:=HO1.out.cells
  go_wp2_with fail
  refine (i_m bb kk cc ll o.id mv _ (by exact HQ1.out.plan) (by rw [HQ1.out.out];exact HMV.out)).mono ?_
  rintro e w3 ⟨rfl,hb3⟩
  have HQ3:=Lib.hid (HQ1.out.next hb3)
  have HO3:Hid (OBox w3 go o):=HO1.out.below hb3
  clear hb3 HQ1 HO1 p0 o0
  cases mv with
  |false=>
   have HN2:Hid (G (k+1)=ST):=by
    show _=_
    rw [HNX.out]
    unfold q_e
    rw [if_neg (by rw [HMV.out];decide)]
   have HPW:Hid (∃ bb kk cc ll,PW w q A n c A2 n2 c2 (some ⟨ab,off,none⟩) lo ST.out ST.total bb kk cc ll w3):=Lib.hid ⟨_,_,_,_,HQ3.out⟩
   clear HNX HQ3 HO3 HMV
   go_wp2_with fail
   go_roundw
   case rel=>exact ⟨k+1,ST,by omega,rfl,by go_num,HN2,HPW⟩
   case measure=>simp [intOf];omega
  |true=>
  obtain ⟨d,hdd⟩:∃d,b-ST.steps=d:=⟨_,rfl⟩
  have hd1:(b:Int)-((ST.steps:Nat):Int)=(d:Int):=by omega
  have hd2:IntKind.i64.wrap (d:Int)=(d:Int):=IntWalk.i64_in _ (by omega)
  obtain ⟨⟨np,nt⟩,hmc⟩:∃z,g_D m ds os ST.out o (d:Int)=z:=⟨_,rfl⟩
  have HDD:=Lib.hid hdd
  have HMC:=Lib.hid hmc
  have hnt:nt≤d:=r_U (by rw [hmc])
  clear hdd hmc
  obtain ⟨f0,f1,f2⟩:=HQ3.out.flt.cells
  obtain ⟨p0,-⟩:=BlBox.cells HQ3.out.bill
  obtain ⟨o0,o1,o2,o3,o4,o5,o6,o7,o8,o9⟩:=HO3.out.cells
  go_wp2_with fail
  refine (l_f base q m A n c ds A2 n2 c2 os bb kk cc ll o d (np,nt) _ hnc hnc2 HQ3.out.cap (by exact HM.out.keep HQ3.out.old) (by exact Recs.more (Recs.keep HD.out HQ3.out.old) HQ3.out.old.size) (by exact Recs.more (Recs.keep HO.out HQ3.out.old) HQ3.out.old.size) (by exact HQ3.out.plan) h80 (by rw [HQ3.out.out];exact HRP.out) HIDB.out (by rw [HQ3.out.out];exact HMC.out)).mono ?_
  rintro e w4 ⟨B7,k7,c7,l7,rfl,hb4,hp7,he7,hk7⟩
  have HQ4:=Lib.hid (HQ3.out.next hb4)
  have HP7:=Lib.hid hp7
  have HE7:Hid (l7.map (·.rt)=np):=he7
  clear hb4 hp7 he7 HQ3 HO3 f0 f1 f2 p0 o0 o1 o2 o3 o4 o5 o6 o7 o8 o9 hd1 hd2
  obtain ⟨s1,hs1⟩:∃s,ST.steps+nt=s:=⟨_,rfl⟩
  have hs2:((ST.steps:Nat):Int)+(nt:Int)=(s1:Int):=by omega
  have hs3:IntKind.i64.wrap (s1:Int)=(s1:Int):=IntWalk.i64_in _ (by have:=HDD.out;have:=HSB.out;omega)
  have HS1:=Lib.hid hs1
  obtain ⟨tv,tb,htv,ht1,ht0⟩:=p_6 m ds os np
  have HTV:=Lib.hid htv
  have HT1:=Lib.hid ht1
  have HT0:=Lib.hid ht0
  clear hs1 htv ht1 ht0
  obtain ⟨f0,f1,f2⟩:=HQ4.out.flt.cells
  go_wp2_with fail
  refine (e_e base q m A n c ds A2 n2 c2 os B7 k7 c7 l7 _ hnc hnc2 (by exact HM.out.keep HQ4.out.old) (by exact Recs.more (Recs.keep HD.out HQ4.out.old) HQ4.out.old.size) (by exact Recs.more (Recs.keep HO.out HQ4.out.old) HQ4.out.old.size) (by exact HP7.out)).mono ?_
  rintro e w5 ⟨rfl,hb5⟩
  rw [HE7.out,HTV.out]
  have HQ5:=Lib.hid (HQ4.out.next hb5)
  have HP5:Hid (Plns w5 w5.heap.size B7 k7 l7):=(HP7.out.keep hb5).more hb5.size
  clear hb5 HQ4 HP7 HTV f0 f1 f2 hs2 hs3
  have HSTEP:Hid (G (k+1)=(match a_z m ds os np with|none=>(⟨ST.out,ST.total,s1⟩:PSt)|some t=>if t<ST.total then ⟨np,t,s1⟩ else ⟨ST.out,ST.total,s1⟩)):=by
   show _=_
   rw [HNX.out]
   unfold q_e
   rw [if_pos HMV.out,HDD.out,HMC.out]
   simp only [HS1.out]
   rfl
  cases tb with
  |false=>
   have HN2:Hid (G (k+1)=⟨ST.out,ST.total,s1⟩):=by show _=_;rw [HSTEP.out,HT0.out rfl]
   have HPW:Hid (∃ bb kk cc ll,PW w q A n c A2 n2 c2 (some ⟨ab,off,none⟩) lo ST.out ST.total bb kk cc ll w5):=Lib.hid ⟨_,_,_,_,HQ5.out⟩
   clear HSTEP HNX HQ5 HP5 HT1 HT0
   go_wp2_with fail
   go_roundw
   case rel=>exact ⟨k+1,⟨ST.out,ST.total,s1⟩,by omega,rfl,by go_num,HN2,HPW⟩
   case measure=>simp [intOf];omega
  |true=>
  have HT:=Lib.hid (HT1.out rfl)
  obtain ⟨p0,p1⟩:=BlBox.cells HQ5.out.bill
  by_cases hless:tv<ST.total
  ·have HN2:Hid (G (k+1)=⟨np,tv,s1⟩):=by show _=_;rw [HSTEP.out,HT.out];simp only;rw [if_pos hless]
   have HPW:Hid (∃ bb kk cc ll,PW w q A n c A2 n2 c2 (some ⟨ab,off,none⟩) lo np tv bb kk cc ll (g_2 w5 (w.heap.size+1) B7 k7 c7 tv)):=Lib.hid ⟨_,_,_,_,HQ5.out.put HP5.out HE7.out hk7⟩
   have hcs:=a_c (w.heap.size+1)
   have hfs:=a_d
   have hff:=Blk.free HQ5.out.bill
   clear HSTEP HNX HQ5 HP5 HT1 HT0 HT
   go_upto_region 12 with fail
   dsimp only [g_2] at HPW
   obtain ⟨w6,hw6⟩:∃u,(w5.setCell ⟨w.heap.size+1,0,none⟩ (.slice B7 k7 c7)).setCell ⟨w.heap.size+1,1,none⟩ (.int .i64 tv)=u:=⟨_,rfl⟩
   rw [hw6] at HPW ⊢
   clear hw6 hcs hfs hff p0 p1
   go_wp2_with fail
   go_roundw
   case rel=>exact ⟨k+1,⟨np,tv,s1⟩,by omega,rfl,by go_num,HN2,HPW⟩
   case measure=>simp [intOf];omega
  ·have HN2:Hid (G (k+1)=⟨ST.out,ST.total,s1⟩):=by show _=_;rw [HSTEP.out,HT.out];simp only;rw [if_neg hless]
   have HPW:Hid (∃ bb kk cc ll,PW w q A n c A2 n2 c2 (some ⟨ab,off,none⟩) lo ST.out ST.total bb kk cc ll w5):=Lib.hid ⟨_,_,_,_,HQ5.out⟩
   clear HSTEP HNX HQ5 HP5 HT1 HT0 HT
   go_wp2_with fail
   go_roundw
   case rel=>exact ⟨k+1,⟨ST.out,ST.total,s1⟩,by omega,rfl,by go_num,HN2,HPW⟩
   case measure=>simp [intOf];omega
end RepairW
namespace RepairW
open MemI
theorem j_E(p:List Rte):a_b p []=p:=by
 unfold a_b;conv=>rhs;rw[← List.map_id p]
 refine List.map_congr_left fun r _=>?_;obtain⟨d,s,st⟩:=r;simp
def t_N(w:World)(n:Nat)(p:List Rte)(e:Ending)(w':World):Prop:=∃B c' l',e=.returned (.slice B n c')∧Below w.heap.size w w'∧Plns w' w'.heap.size B n l'∧l'.map (·.rt)=p∧n≤c'
theorem p_7(A:Option Addr)(n c:Nat)(l:List RM)(w:World)(hl:Plns w w.heap.size A n l)(hr:a_h (l.map (·.rt))=true):
 Calls Tryz.prog 142 #[.slice A n c] w (t_N w n (l.map (·.rt))):=by
 have hlen:=Plns.length hl;have hn8:n≤8:=by have:=b_2 hr;rw[List.length_map,hlen]at this;exact this
 have hw1:∀r∈l,∀s∈r.rt.stops,(Lit.int .i64 s.ord).wf=true:=fun r hr' s hs=>i_b (c_s (a_R hr (List.mem_map_of_mem hr')) hs);have HC:=Lib.hid (g_c w w A n c l none 0 0 [] _ hl (by omega) Reads.none_ hw1 (fun z hz=>by cases hz) (Below.refl _ _) (j_E _));have HL:Hid ((l.map (·.rt)).length=n):=by show _=_;rw[List.length_map];exact hlen
 clear hl hr hlen hw1;go_enter Tryz.func142,Tryz.ntmps142;go_wp2_with fail
 refine HC.out.mono ?_;rintro e w2 ⟨B3,c4,l4,rfl,hb2,-,hp4,he4,hl4,hnew⟩
 have hk4:(l.map (·.rt)).length≤c4:=by
  obtain⟨A',c',e',h1,_⟩:=hnew.own.read;injection e' with _ e2 e3;omega
 rw[HL.out]at hp4 hk4;rw[HL.out];have HB2:=Lib.hid hb2;have HP4:=Lib.hid hp4;have HE4:=Lib.hid he4;clear hb2 hp4 he4 hl4 hnew HC;go_wp2_with fail
 go_ret;exact⟨B3,c4,l4,rfl,HB2.out,HP4.out,HE4.out,hk4⟩
structure RW(w:World)(q A:Option Addr)(n c:Nat)(A2:Option Addr)(n2 c2:Nat)(gb:Nat)(p:List Rte)(t:Int)(B:Option Addr)(k cc:Nat)(l:List RM)(u:World):Prop where
 old:Below w.heap.size w u
 flt:RfBox u w.heap.size q A n c A2 n2 c2
 bill:BlBox u gb B k cc t
 far:w.heap.size+1≤gb
 plan:Plns u u.heap.size B k l
 out:l.map (·.rt)=p
 cap:k≤cc
section
variable {w u u' : World} {q A A2 B : Option Addr} {n c n2 c2 gb k cc : Nat} {p : List Rte} {t : Int} {l : List RM}
theorem RW.next(h:RW w q A n c A2 n2 c2 gb p t B k cc l u)(hb:Below u.heap.size u u'):RW w q A n c A2 n2 c2 gb p t B k cc l u':=
 ⟨h.old.trans (hb.mono h.old.size),h.flt.below hb,h.bill.below hb,h.far,(h.plan.keep hb).more hb.size,h.out,h.cap⟩
theorem RW.put{p':List Rte}{t':Int}{B':Option Addr}{k' cc':Nat}{l':List RM}(h:RW w q A n c A2 n2 c2 gb p t B k cc l u)(hp:Plns u u.heap.size B' k' l')(ho:l'.map (·.rt)=p')(hc:k'≤cc'):RW w q A n c A2 n2 c2 gb p' t' B' k' cc' l' (g_2 u gb B' k' cc' t'):=by
 have hon:=c_t u gb B' k' cc' t';have hsz:(g_2 u gb B' k' cc' t').heap.size=u.heap.size:=hon.size;refine⟨d_c h.old (by have:=h.far;omega) _ _ _ _,hon.blk h.flt (by have:=h.far;omega),e_G h.bill _ _ _ _,h.far,?_,ho,hc⟩;rw[hsz];exact hp.only hon h.bill
end
def d_d(m:Option Mp)(ds:List Drv)(os:List FleetMath.Ord)(b:Nat)(s:RSt)(ch:Bool):RSt:=if ch=true then a_S m ds os b (b-s.steps+1) s else s
theorem g_A{m:Option Mp}{ds:List Drv}{os:List FleetMath.Ord}{b:Nat}{s:RSt}{ch:Bool}(h:ch=false∨b≤s.steps):d_d m ds os b s ch=s:=by
 unfold d_d;rcases h with h|h
 ·rw[if_neg (by rw[h];decide)]
 ·split
  ·exact l_j h
  ·rfl
theorem j_F{m:Option Mp}{ds:List Drv}{os:List FleetMath.Ord}{p:List Rte}{t:Int}{b:Nat}{s:RSt}(hi:RInv m ds os p t b s)(h:s.steps<b){r:PSt}(hr:c_P m ds os b s=r):
 d_d m ds os b s true=d_d m ds os b ⟨r.out,s.steps+r.steps,s.passes+1⟩ (decide (r.total<b_a m ds os s.out))∧RInv m ds os p t b ⟨r.out,s.steps+r.steps,s.passes+1⟩∧r.total=b_a m ds os r.out∧(r.total<b_a m ds os s.out→0<r.steps):=by
 subst hr;have hp:=hi.pass;have e:=(b_p hp.total).2;refine⟨?_,hi.next _,e,fun hlt=>d_f fun ho=>?_⟩
 ·by_cases ho:(c_P m ds os b s).out=s.out
  ·have hn:¬(c_P m ds os b s).total<b_a m ds os s.out:=by rw[e,ho];omega
   rw[decide_eq_false hn,g_A (.inl rfl)];unfold d_d;rw[if_pos rfl,l_k h (by omega) ho,ho]
  ·have hl:=hp.same ho
   rw[decide_eq_true hl];unfold d_d;rw[if_pos rfl,if_pos rfl,l_l h ho];have h1:=d_f ho;exact l_m (by simp only;omega) (by simp only;omega)
 ·rw[e,ho]at hlt;omega
theorem prepair_any(base:Nat)(pv:Value)(m:Option Mp)(A:Option Addr)(n c:Nat)(ds:List Drv)(A2:Option Addr)(n2 c2:Nat)(os:List FleetMath.Ord)(A3:Option Addr)(n3 c3:Nat)(l:List RM)(b:Int)(w:World)(hnc:n≤c)(hnc2:n2≤c2)
 (h:MapP w 92 base pv m) (hd:Drvs w w.heap.size A n ds) (ho:Ords w w.heap.size A2 n2 os) (hl:Plns w w.heap.size A3 n3 l) (hn80:n2*80≤140737488351232):
 Calls Tryz.prog 80 #[pv,.slice A n c,.slice A2 n2 c2,.slice A3 n3 c3,.int .i64 b] w (i_i w (b_q m ds os (l.map (·.rt)) b)):=by
 obtain⟨q,hq⟩:∃q,pv=.pointer q:=by
  rcases h with⟨rfl,_⟩|⟨_,_,_,rfl,_⟩
  ·exact⟨_,rfl⟩
  ·exact⟨_,rfl⟩
 subst hq;have HM:=Lib.hid h;have HD:=Lib.hid hd;have HO:=Lib.hid ho;have HP:=Lib.hid hl;have HB0:Hid (Below w.heap.size w (w.alloc (.cells #[.pointer q,.slice A n c,.slice A2 n2 c2] 142))):=(Below.refl _ _).alloc (Nat.le_refl _) _;have HF0:=Lib.hid (RfBox.new w q A n c A2 n2 c2);have hlen:=Plns.length hl;obtain⟨T,hT⟩:∃z,a_z m ds os (l.map (·.rt))=z:=⟨_,rfl⟩;have HT:=Lib.hid hT;obtain⟨Z,hZ⟩:∃z,b_q m ds os (l.map (·.rt)) b=z:=⟨_,rfl⟩;rw[hZ];have HZA:=Lib.hid hZ;clear h hd ho hl hT hZ;obtain⟨f0,f1,f2⟩:=HF0.out.cells;go_enter Tryz.func80,Tryz.ntmps80;go_wp2_with fail
 refine(e_e base q m A n c ds A2 n2 c2 os A3 n3 c3 l _ hnc hnc2 (by exact HM.out.keep HB0.out) (by exact Recs.more (Recs.keep HD.out HB0.out) HB0.out.size) (by exact Recs.more (Recs.keep HO.out HB0.out) HB0.out.size) (by exact(HP.out.keep HB0.out).more HB0.out.size)).mono ?_;rintro e w1 ⟨rfl,hb1⟩;rw[HT.out];have HB1:=Lib.hid (HB0.out.trans (hb1.mono HB0.out.size));have HF1:Hid (RfBox w1 w.heap.size q A n c A2 n2 c2):=HF0.out.below hb1;clear hb1 HB0 HF0 f0 f1 f2;cases T with
 |none=>
  have HX:Hid (Z=none):=by show _=_;rw[← HZA.out];unfold b_q;rw[HT.out]
  simp only[optV];go_wp2_with fail
  refine bodyPost_ret (v:=.tuple #[.slice none 0 0,.int .i64 0,.int .i64 0,.int .i64 1]) ?_ rfl (by rw[HX.out];exact⟨rfl,HB1.out⟩);simp[results,Tryz.results80,go_sem]
 |some t=>
 simp only[optV];go_wp2_with fail
 refine(g_Y b _).mono ?_;rintro e w2 ⟨rfl,rfl⟩;by_cases hbb:0≤b∧b≤100000
 case neg=>
  rw[decide_eq_false hbb];have HX:Hid (Z=none):=by show _=_;rw[← HZA.out];unfold b_q;rw[HT.out];simp only;rw[if_pos (by omega)]
  clear hbb;go_wp2_with fail
  refine bodyPost_ret (v:=.tuple #[.slice none 0 0,.int .i64 0,.int .i64 0,.int .i64 1]) ?_ rfl (by rw[HX.out];exact⟨rfl,HB1.out⟩);simp[results,Tryz.results80,go_sem]
 rw[decide_eq_true hbb];obtain⟨bn,hbn⟩:∃bn:Nat,b=(bn:Int):=⟨b.toNat,by omega⟩;subst hbn;have hbn1:bn≤100000:=by omega
 have HRP:Hid (a_h (l.map (·.rt))=true):=c_B HT.out;have hn8:n3≤8:=by have:=b_2 HRP.out;rw[List.length_map,hlen]at this;exact this
 have HTT:Hid (t=b_a m ds os (l.map (·.rt))):=(b_p HT.out).2;obtain⟨R,hR⟩:∃R,a_S m ds os bn (bn+1) ⟨l.map (·.rt),0,0⟩=R:=⟨_,rfl⟩;have HX:Hid (Z=some R):=by show _=_;rw[← HZA.out,f_m HT.out (by omega) (by omega),Int.toNat_natCast,hR]
 have HI0:Hid (RInv m ds os (l.map (·.rt)) t bn ⟨l.map (·.rt),0,0⟩):=RInv.start HT.out;have HL0:Hid (d_d m ds os bn ⟨l.map (·.rt),0,0⟩ true=R):=hR;clear hR hbb;go_wp2_with fail
 refine(p_7 A3 n3 c3 l _ (by exact(HP.out.keep HB1.out).more HB1.out.size) HRP.out).mono ?_;rintro e w2 ⟨B,cb,l2,rfl,hb2,hp2,he2,hk2⟩
 have HW0:Hid (RW w q A n c A2 n2 c2 w2.heap.size (l.map (·.rt)) (b_a m ds os (l.map (·.rt))) B n3 cb l2 (w2.alloc (.cells #[.slice B n3 cb,.int .i64 t] 208))):=by
  have b1:Below w2.heap.size w2 (w2.alloc (.cells #[.slice B n3 cb,.int .i64 t] 208)):=(Below.refl _ _).alloc (Nat.le_refl _) _;rw[← HTT.out];exact⟨(HB1.out.trans (hb2.mono HB1.out.size)).trans (b1.mono (Nat.le_trans HB1.out.size hb2.size)),(HF1.out.below hb2).below b1,Blk.new w2 _ _,Nat.le_trans (Blk.lt HF1.out) hb2.size,(hp2.keep b1).more b1.size,he2,hk2⟩
 clear hb2 hp2 he2 HB1 HF1 HTT HP;go_upto_region 6 with fail
 obtain⟨gb,hgb⟩:∃g,w2.heap.size=g:=⟨_,rfl⟩;obtain⟨X,hX⟩:∃u,w2.alloc (.cells #[.slice B n3 cb,.int .i64 t] 208)=u:=⟨_,rfl⟩;rw[hgb,hX]at HW0;rw[hgb,hX];clear hgb hX;go_wp2_with fail
 go_loopw [18,19,20] (fun sv pv cv wr=>∃(s:RSt) (ch:Bool),sv=.int .i64 ((s.steps:Nat):Int)∧pv=.int .i64 ((s.passes:Nat):Int)∧cv=.bool ch∧Hid (RInv m ds os (l.map (·.rt)) t bn s∧s.passes≤s.steps+(if ch then 0 else 1))∧Hid (d_d m ds os bn s ch=R)∧Hid (∃ bb kk cc ll,RW w q A n c A2 n2 c2 gb s.out (b_a m ds os s.out) bb kk cc ll wr)) (fun sv _ cv _=>2*(bn-(intOf sv).toNat)+(match cv with| .bool true=>1|_=>0))
 case atStart=>exact⟨⟨l.map (·.rt),0,0⟩,true,rfl,rfl,rfl,Lib.hid ⟨HI0.out,Nat.zero_le _⟩,HL0,Lib.hid ⟨_,_,_,_,HW0.out⟩⟩
 case round=>
  clear HI0 HL0 HW0;obtain⟨s,ch,rfl,rfl,rfl,HI,HLF,HRW⟩:=hrel;obtain⟨bb,kk,cc,ll,hrw⟩:=HRW.out;have HW:=Lib.hid hrw;clear hrw HRW;obtain⟨sn,hsn⟩:∃x,s.steps=x:=⟨_,rfl⟩;obtain⟨pn,hpn⟩:∃x,s.passes=x:=⟨_,rfl⟩;have HSN:=Lib.hid hsn;have HPN:=Lib.hid hpn;rw[hsn,hpn];have hsb:sn≤bn:=by rw[← hsn];exact HI.out.1.steps
  clear hsn hpn;by_cases hgo:ch=true∧sn<bn
  case neg=>
   have HEND:Hid (s=R):=by
    show _=_;rw[← HLF.out];refine(g_A ?_).symm;cases ch with
    |false=>exact .inl rfl
    |true=>exact .inr (by rw[HSN.out];exact Nat.le_of_not_lt fun h=>hgo ⟨rfl,h⟩)
   obtain⟨b0,b1⟩:=BlBox.cells HW.out.bill
   have HFIN:Hid (i_i w Z (.returned (.tuple #[.slice bb kk cc,.int .i64 (sn:Int),.int .i64 (pn:Int),.int .i64 0])) wr):=by
    have hlk:s.out.length=kk:=by rw[← HW.out.out,List.length_map];exact Plns.length HW.out.plan
    have hrk:R.out.length=kk:=by rw[← HEND.out];exact hlk
    rw[HX.out];refine⟨bb,cc,ll,?_,HW.out.old,?_,by rw[← HEND.out];exact HW.out.out,by rw[hrk];exact HW.out.cap⟩
    ·rw[hrk,←HEND.out,HSN.out,HPN.out]
    ·rw[hrk];exact HW.out.plan
   cases ch with
   |false=>
    clear hgo HEND HLF;go_wp2_with fail
    refine bodyPost_ret (v:=.tuple #[.slice bb kk cc,.int .i64 (sn:Int),.int .i64 (pn:Int),.int .i64 0]) ?_ rfl HFIN.out;simp[results,Tryz.results80,go_sem]
   |true=>
    have e1:¬(sn:Int)<(bn:Int):=by
     intro h;exact hgo ⟨rfl,by omega⟩
    clear hgo HEND HLF;go_wp2_with fail
    refine bodyPost_ret (v:=.tuple #[.slice bb kk cc,.int .i64 (sn:Int),.int .i64 (pn:Int),.int .i64 0]) ?_ rfl HFIN.out;simp[results,Tryz.results80,go_sem]
  obtain⟨hch,hlt⟩:=hgo;subst hch;have e1:(sn:Int)<(bn:Int):=by omega
  obtain⟨d,hdd⟩:∃d,bn-sn=d:=⟨_,rfl⟩;have hd1:(bn:Int)-(sn:Int)=(d:Int):=by omega
  have hd2:IntKind.i64.wrap (d:Int)=(d:Int):=IntWalk.i64_in _ (by omega);obtain⟨r,hr⟩:∃r,c_P m ds os bn s=r:=⟨_,rfl⟩;have HST:=Lib.hid (j_F HI.out.1 (by rw[HSN.out];exact hlt) hr)
  have HPR:Hid (d_Y m ds os d ⟨ll.map (·.rt),b_a m ds os s.out,0⟩=r):=by
   show _=_;rw[← hr,HW.out.out,←hdd,←HSN.out];rfl
  have HTO:Hid (a_z m ds os (ll.map (·.rt))=some (b_a m ds os s.out)):=by show _=_;rw[HW.out.out];exact HI.out.1.total
  have HRS:Hid (r.steps≤d):=by
   have:=HI.out.1.pass.steps;rw[hr,HSN.out,hdd]at this;exact this
  have hpn1:pn≤sn:=by
   have:=HI.out.2;rw[HPN.out,HSN.out]at this;simpa using this
  obtain⟨Q,hQ⟩:∃z,b_a m ds os s.out=z:=⟨_,rfl⟩;have HQ:=Lib.hid hQ;rw[hQ]at HW HPR HTO HST;clear hr hQ;have hdn:d≤100000:=by omega
  have HDD:=Lib.hid hdd;clear hdd;obtain⟨f0,f1,f2⟩:=HW.out.flt.cells;obtain⟨b0,b1⟩:=BlBox.cells HW.out.bill;go_wp2_with fail
  refine(n_G base q m A n c ds A2 n2 c2 os bb kk cc ll Q d r _ hnc hnc2 HW.out.cap (by exact HM.out.keep HW.out.old) (by exact Recs.more (Recs.keep HD.out HW.out.old) HW.out.old.size) (by exact Recs.more (Recs.keep HO.out HW.out.old) HW.out.old.size) (by exact HW.out.plan) hn80 HTO.out hdn HPR.out).mono ?_;rintro e w3 ⟨B3,k3,c3',l3,rfl,hb3,hp3,he3,hk3⟩;obtain⟨rn,hrn⟩:∃x,r.steps=x:=⟨_,rfl⟩;obtain⟨rt,hrt⟩:∃x,r.total=x:=⟨_,rfl⟩;have b4:Below w3.heap.size w3 (w3.alloc (.cells #[.slice B3 k3 c3',.int .i64 rt] 208)):=(Below.refl _ _).alloc (Nat.le_refl _) _;have HW4:=Lib.hid (HW.out.next (hb3.trans (b4.mono hb3.size)));have HB4:Hid (BlBox (w3.alloc (.cells #[.slice B3 k3 c3',.int .i64 rt] 208)) w3.heap.size B3 k3 c3' rt):=Blk.new w3 _ _;have HP4:Hid (Plns (w3.alloc (.cells #[.slice B3 k3 c3',.int .i64 rt] 208)) (w3.alloc (.cells #[.slice B3 k3 c3',.int .i64 rt] 208)).heap.size B3 k3 l3):=(hp3.keep b4).more b4.size;have HE3:Hid (l3.map (·.rt)=r.out):=he3;rw[hrn,hrt];have HRN:=Lib.hid hrn;have HRT:=Lib.hid hrt;clear hrn hrt hb3 hp3 he3 b4 HW f0 f1 f2 b0 b1 hd1 hd2 e1;go_upto_region 10 with fail
  obtain⟨g3,hg3⟩:∃g,w3.heap.size=g:=⟨_,rfl⟩;obtain⟨w4,hw4⟩:∃u,w3.alloc (.cells #[.slice B3 k3 c3',.int .i64 rt] 208)=u:=⟨_,rfl⟩;rw[hw4]at HW4 HP4;rw[hg3,hw4]at HB4;rw[hg3,hw4];clear hg3 hw4;obtain⟨s1,hs1⟩:∃x,sn+rn=x:=⟨_,rfl⟩;have hs2:(sn:Int)+(rn:Int)=(s1:Int):=by omega
  have hrd:rn≤d:=by have:=HRS.out;rw[HRN.out]at this;exact this
  have hs3:IntKind.i64.wrap (s1:Int)=(s1:Int):=IntWalk.i64_in _ (by have:=HDD.out;omega);obtain⟨p1,hp1⟩:∃x,pn+1=x:=⟨_,rfl⟩;have hp2:(pn:Int)+1=(p1:Int):=by omega
  have hp3:IntKind.i64.wrap (p1:Int)=(p1:Int):=IntWalk.i64_in _ (by omega);obtain⟨x0,x1⟩:=BlBox.cells HB4.out;obtain⟨b0,b1⟩:=BlBox.cells HW4.out.bill;obtain⟨z,hz⟩:∃z,decide (rt<Q)=z:=⟨_,rfl⟩
  have HNEW:Hid (∃ s':RSt,s'.steps=s1∧s'.passes=p1∧s'.out=r.out∧RInv m ds os (l.map (·.rt)) t bn s'∧d_d m ds os bn s' z=R∧rt=b_a m ds os r.out∧(z=true→0<rn)):=by
   obtain⟨h1,h2,h3,h4⟩:=HST.out;refine⟨⟨r.out,s.steps+r.steps,s.passes+1⟩,by simp only;rw[HSN.out,HRN.out];exact hs1,by simp only;rw[HPN.out];exact hp1,rfl,h2,?_,by rw[← HRT.out];exact h3,fun hzt=>?_⟩
   ·rw[← hz,←HRT.out,←h1];exact HLF.out
   ·rw[← HRN.out]
    refine h4 ?_;rw[HRT.out];exact of_decide_eq_true (hz.trans hzt)
  have HWP:=Lib.hid (HW4.out.put (t':=rt) HP4.out HE3.out hk3);have hcs:=a_c gb;have hfs:=a_d;have hff:=Blk.free HW4.out.bill;have HZ:=Lib.hid hz;clear HST HLF HI HRS HW4 HP4 hs1 hp1 hz;by_cases hless:rt<Q
  all_goals
   have HZZ:Hid (z=decide (rt<Q)):=HZ.out.symm;go_upto_region 8 with fail
   dsimp only[g_2]at HWP;obtain⟨w6,hw6⟩:∃u,(w4.setCell ⟨gb,0,none⟩ (.slice B3 k3 c3')).setCell ⟨gb,1,none⟩ (.int .i64 rt)=u:=⟨_,rfl⟩;rw[hw6]at HWP ⊢;clear hw6 hcs hfs hff b0 b1 x0 x1;go_wp2_with fail
   go_roundw
   case rel=>
    obtain⟨s',h1,h2,h3,h4,h5,h6,h7⟩:=HNEW.out;refine⟨s',z,by rw[h1],by rw[h2],by rw[HZZ.out];simp[hless],Lib.hid ⟨h4,?_⟩,h5,Lib.hid ⟨_,_,_,_,by rw[h3,←h6];exact HWP.out⟩⟩;rw[h1,h2];cases z with
    |true=>have:=h7 rfl;simp;omega
    |false=>simp;omega
   case measure=>
    obtain⟨s',h1,h2,h3,h4,h5,h6,h7⟩:=HNEW.out;have hz2:=HZZ.out
    first
     |(rw[decide_eq_true hless]at hz2;have:=h7 hz2;simp[intOf];omega)
     |(rw[decide_eq_false hless]at hz2;simp[intOf];omega)
end RepairW
end Go.Proofs.YtkpnmpjnpcjohaaGreat
