import Derived.Test.YtkpnmpjnpcjohaaGreatAuditKs
import Derived.Test.YtkpnmpjnpcjohaaGreatAuditFinds
import Derived.Test.YtkpnmpjnpcjohaaGreatCertMakesP
set_option linter.unusedSimpArgs false
set_option linter.unusedVariables false
set_option maxHeartbeats 16000000
set_option maxRecDepth 100000
namespace Go.Proofs.YtkpnmpjnpcjohaaGreat
open ChangeShapes WideShapes ChangeAt RowKit Mem GeoMath FleetMath PlanMath CertMath AuditMath Rec Geo Span Deal Route Plan Cert
namespace Audit
def KBox(u:World)(g:Nat)(q:Option Addr)(d:Drv)(st:St)(v:Value):Prop:=Blk u g 193 [.pointer q,.int .i64 d.id,.int .i64 d.room,.int .i64 d.home,.int .i64 d.win.fr,.int .i64 d.win.to,.bool d.retired,.int .i64 st.at_,.int .i64 st.left,.int .i64 st.load,v]
theorem KBox.cells{u:World}{g:Nat}{q:Option Addr}{d:Drv}{st:St}{v:Value}(h:KBox u g q d st v):u.cell? ⟨g,0,none⟩=some (.pointer q)∧u.cell? ⟨g,1,none⟩=some (.int .i64 d.id)∧u.cell? ⟨g,2,none⟩=some (.int .i64 d.room)∧u.cell? ⟨g,3,none⟩=some (.int .i64 d.home)∧u.cell? ⟨g,4,none⟩=some (.int .i64 d.win.fr)∧u.cell? ⟨g,5,none⟩=some (.int .i64 d.win.to)∧u.cell? ⟨g,6,none⟩=some (.bool d.retired)∧u.cell? ⟨g,7,none⟩=some (.int .i64 st.at_)∧u.cell? ⟨g,8,none⟩=some (.int .i64 st.left)∧u.cell? ⟨g,9,none⟩=some (.int .i64 st.load)∧u.cell? ⟨g,10,none⟩=some v:=
 ⟨Blk.cell h rfl,Blk.cell h rfl,Blk.cell h rfl,Blk.cell h rfl,Blk.cell h rfl,Blk.cell h rfl,Blk.cell h rfl,Blk.cell h rfl,Blk.cell h rfl,Blk.cell h rfl,Blk.cell h rfl⟩
structure Stay(w w':World):Prop where
 size:w.heap.size≤w'.heap.size
 blk:∀(b:Nat) (T:TypeId) (vs:List Value),T≠130→T≠193→Blk w b T vs→Blk w' b T vs
structure TS(X:World)(g:Nat)(q:Option Addr)(d:Drv)(st:St)(l:List Trb)(v:Value)(u:World):Prop where
 list:TL X v l u
 far:X.heap.size≤g
 box:KBox u g q d st v
section
variable {X w u u' : World} {g : Nat} {q : Option Addr} {d : Drv} {st : St} {l : List Trb} {v v' : Value}
theorem Stay.refl(w:World):Stay w w:=⟨Nat.le_refl _,fun _ _ _ _ _ h=>h⟩
theorem Stay.of(h:Below w.heap.size w u):Stay w u:=⟨h.size,fun _ _ _ _ _ hb=>hb.below h hb.lt⟩
theorem Stay.trans(h:Stay w u)(h':Stay u u'):Stay w u':=⟨Nat.le_trans h.1 h'.1,fun b T vs h1 h2 hb=>h'.2 b T vs h1 h2 (h.2 b T vs h1 h2 hb)⟩
theorem Stay.next(h:Stay w u)(h':Below u.heap.size u u'):Stay w u':=h.trans (Stay.of h')
theorem Stay.drew(h:Stay w u):Stay w u.drew:=h.next (Below.refl _ _).drew
theorem Stay.drewN(h:Stay w u)(n:Nat):Stay w (u.drewN n):=h.next (a_l (Below.refl _ _) n)
theorem TS.old(h:TS X g q d st l v u):Below X.heap.size X u:=h.list.below
theorem TS.next(h:TS X g q d st l v u)(hb:Below u.heap.size u u'):TS X g q d st l v u':=⟨h.list.next hb,h.far,Blk.below h.box hb (Blk.lt h.box)⟩
theorem TS.drew(h:TS X g q d st l v u):TS X g q d st l v u.drew:=h.next (Below.refl _ _).drew
theorem TS.drewN(h:TS X g q d st l v u)(n:Nat):TS X g q d st l v (u.drewN n):=h.next (a_l (Below.refl _ _) n)
theorem TL.off(h:TL X v l u)(hb:KBox u g q d st v'):KB v u g 193 [.pointer q,.int .i64 d.id,.int .i64 d.room,.int .i64 d.home,.int .i64 d.win.fr,.int .i64 d.win.to,.bool d.retired,.int .i64 st.at_,.int .i64 st.left,.int .i64 st.load,v']:=KB.of h hb (by decide)
theorem TL.set(h:TL X v l u)(hg:X.heap.size≤g)(hn:v.ownBlock≠some g)(i:Nat)(x:Value):TL X v l (u.setCell ⟨g,i,none⟩ x):=by
 refine⟨h.below.setCell hg _,?_⟩;obtain⟨⟨hl,ho⟩,hm⟩:=h.own;refine⟨⟨hl,?_⟩,hm⟩;rcases ho with ho|⟨g',cap,cur,rfl,hg',hh,hr⟩
 ·exact .inl ho
 ·refine .inr ⟨g',cap,cur,rfl,hg',(Below.heap_setCell u _ _ _ fun e=>hn ?_).trans hh,hr⟩
  rw[e];rfl
theorem Stay.set(h:Stay w u){xs:List Value}(hb:Blk u g 193 xs)(i:Nat)(x:Value):Stay w (u.setCell ⟨g,i,none⟩ x):=by
 refine⟨by simpa using h.1,fun b T vs h1 h2 hx=>?_⟩;have hy:=h.2 b T vs h1 h2 hx
 have hne:b≠g:=fun e=>by
  subst e;unfold Blk at hb hy;rw[hb]at hy;injection hy with hy;injection hy with _ hy;exact h2 hy.symm
 exact(Below.heap_setCell u _ _ _ hne).trans hy
theorem TS.load(h:TS X g q d st l v u)(n:Int):TS X g q d ⟨st.at_,st.left,n⟩ l v (u.setCell ⟨g,9,none⟩ (.int .i64 n)):=
 ⟨h.list.set h.far (h.list.off h.box).2 _ _,h.far,Blk.put h.box 9 (.int .i64 n)⟩
theorem TS.loadStay(h:TS X g q d st l v u)(hs:Stay w u)(n:Int):Stay w (u.setCell ⟨g,9,none⟩ (.int .i64 n)):=hs.set h.box _ _
theorem TS.go(h:TS X g q d st l v u)(p t:Int):TS X g q d ⟨p,t,st.load⟩ l v ((u.setCell ⟨g,7,none⟩ (.int .i64 p)).setCell ⟨g,8,none⟩ (.int .i64 t)):=
 ⟨(h.list.set h.far (h.list.off h.box).2 _ _).set h.far (h.list.off h.box).2 _ _,h.far,Blk.put (Blk.put h.box 7 (.int .i64 p)) 8 (.int .i64 t)⟩
theorem TS.goStay(h:TS X g q d st l v u)(hs:Stay w u)(i j:Nat)(x y:Value):Stay w ((u.setCell ⟨g,i,none⟩ x).setCell ⟨g,j,none⟩ y):=(hs.set h.box _ _).set (Blk.put h.box i x) _ _
theorem TS.told{t:Trb}(h:TS X g q d st l v u)(hq:TL X v' (l++[t]) u')(hk:∀b T vs,KB v u b T vs→KB v' u' b T vs):TS X g q d st (l++[t]) v' (u'.setCell ⟨g,10,none⟩ v'):=by
 have h1:=hk _ _ _ (h.list.off h.box);exact⟨hq.set h.far h1.2 _ _,h.far,Blk.put h1.1 10 v'⟩
theorem TS.toldStay{t:Trb}(h:TS X g q d st l v u)(hs:Stay w u)(hz:u.heap.size≤u'.heap.size)(hk:∀b T vs,KB v u b T vs→KB v' u' b T vs):Stay w (u'.setCell ⟨g,10,none⟩ v'):=by
 have h1:=hk _ _ _ (h.list.off h.box);exact(hs.trans ⟨hz,fun b T vs h2 h3 hb=>(hk b T vs (KB.of h.list hb h2)).1⟩).set h1.1 _ _
end
def h_M(l:List Trb)(d:Drv)(o y:Int):List Trb:=if y=0 then l else l++[⟨d.id,o,y⟩]
def f_L(d:Drv)(o:FleetMath.Ord)(seen:List Stp)(st:St)(s:Stp):Int:=if b_v seen s then 17 else if s.drop=false∧d.room<a_k o s st.load then 14 else 0
def f_M(d:Drv)(si:Site)(bg:Int):Int:=if si.win.to<bg∨d.win.to<bg+si.serv then 15 else 0
theorem l_y(l:List Trb)(d:Drv)(o:Int):h_M l d o 0=l:=if_pos rfl
theorem c_S(l:List Trb)(d:Drv)(o:Int){y:Int}(h:y≠0):h_M l d o y=l++[⟨d.id,o,y⟩]:=if_neg h
theorem m_k{l:List Trb}{d:Drv}{o:FleetMath.Ord}{seen:List Stp}{st:St}{s:Stp}:h_M l d s.ord (f_L d o seen st s)=l++e_h d o seen st s:=by
 unfold f_L e_h;by_cases h1:b_v seen s
 ·rw[if_pos h1,if_pos h1,c_S _ _ _ (by decide)]
 ·rw[if_neg h1,if_neg h1]
  by_cases h2:s.drop=false∧d.room<a_k o s st.load
  ·rw[if_pos h2,if_pos h2,c_S _ _ _ (by decide)]
  ·rw[if_neg h2,if_neg h2,l_y,List.append_nil]
theorem m_l{l:List Trb}{m:Mp}{d:Drv}{o:FleetMath.Ord}{st:St}{s:Stp}:h_M l d s.ord (f_M d (a_e o s) (b_u m o st s))=l++f_H m d o st s:=by
 unfold f_M f_H;by_cases h1:(a_e o s).win.to<b_u m o st s∨d.win.to<b_u m o st s+(a_e o s).serv
 ·rw[if_pos h1,if_pos h1,c_S _ _ _ (by decide)]
 ·rw[if_neg h1,if_neg h1,l_y,List.append_nil]
theorem e_i(X:World)(g:Nat)(q:Option Addr)(d:Drv)(st:St)(l:List Trb)(v:Value)(o y:Int)(w:World)(h:TS X g q d st l v w)(hl:l.length≤100000):
 Calls Tryz.prog 130 #[.pointer (some ⟨g,0,none⟩),.int .i64 o,.int .i64 y] w (fun e w'=>e=.returned (.tuple #[])∧(∃ v',TS X g q d st (h_M l d o y) v' w')∧Stay w w'):=by
 have HS:=Lib.hid h;clear h;by_cases hy:y=0
 ·subst hy
  have HT:Hid (h_M l d o 0=l):=Lib.hid (if_pos rfl);go_enter Tryz.func130,Tryz.ntmps130;go_wp2_with fail
  go_end0
  exact⟨rfl,⟨v,by rw[HT.out];exact HS.out⟩,Stay.refl _⟩
 ·have HT:Hid (h_M l d o y=l++[⟨d.id,o,y⟩]):=Lib.hid (if_neg hy)
  have e1:(y != 0)=true:=by simpa using hy
  obtain⟨A,c,hv,_,_⟩:=HS.out.list.own.read;have hb:Below w.heap.size w (w.alloc (.cells #[.int .i64 d.id,.int .i64 o,.int .i64 y] 130)).drew:=((Below.refl _ _).alloc (Nat.le_refl _) _).drew;have HA:Hid (TS X g q d st l v (w.alloc (.cells #[.int .i64 d.id,.int .i64 o,.int .i64 y] 130)).drew):=HS.out.next hb;have HZ:Hid (Stay w (w.alloc (.cells #[.int .i64 d.id,.int .i64 o,.int .i64 y] 130)).drew):=Stay.of hb;have HAB:Blk (w.alloc (.cells #[.int .i64 d.id,.int .i64 o,.int .i64 y] 130)).drew w.heap.size 130 (d_i ⟨d.id,o,y⟩):=Blk.new w 130 (d_i ⟨d.id,o,y⟩)
  have HY:Hid (Recs (w.alloc (.cells #[.int .i64 d.id,.int .i64 o,.int .i64 y] 130)).drew (w.alloc (.cells #[.int .i64 d.id,.int .i64 o,.int .i64 y] 130)).drew.heap.size (some ⟨w.heap.size,0,none⟩) 1 3 (d_i ⟨d.id,o,y⟩)):=by
   refine⟨rfl,by unfold maxLen;omega,fun _=>⟨_,0,rfl,HAB.lt,fun j x hx=>?_⟩⟩;rw[Nat.zero_add];exact HAB.cell hx
  clear hy HAB hb;subst hv;obtain⟨k0,k1,k2,k3,k4,k5,k6,k7,k8,k9,k10⟩:=HS.out.box.cells;have z1:∀ob,(w.alloc ob).cell? ⟨g,1,none⟩=some (.int .i64 d.id):=fun ob=>(KBox.cells (HS.out.next ((Below.refl _ _).alloc (Nat.le_refl _) ob)).box).2.1;have z2:∀ob,(w.alloc ob).cell? ⟨g,10,none⟩=some (.slice A l.length c):=fun ob=>(KBox.cells (HS.out.next ((Below.refl _ _).alloc (Nat.le_refl _) ob)).box).2.2.2.2.2.2.2.2.2.2;clear k0 k2 k3 k4 k5 k6 k7 k8 k9;go_enter Tryz.func130,Tryz.ntmps130;go_wp2_with fail
  go_region_law (refine g_P (by rfl) _ _ Tryz.underlying78 h_G rfl (by decide) (by rfl) (base:=X.heap.size) HA.out.list.own (by rfl) HY.out (by rfl) (g_4 ⟨d.id,o,y⟩) (by unfold maxLen;omega) (by omega) (w0:=X) (B0:=X.heap.size) HA.out.old HA.out.old.size HA.out.old.size (Nat.le_refl _) ?_;intro vB wB HO2 HB2 HG2 HN2;obtain⟨A9,c9,hvB,_,_⟩:=HO2.out.read;subst hvB;have HQ:=Lib.hid (HA.out.list.push HO2.out HG2.out);have HKB:Hid (∀ b T vs,KB (.slice A l.length c) _ b T vs→KB (.slice A9 (l.length+1) c9) wB b T vs):=Lib.hid (fun b T vs hb=>hb.push HG2.out HN2.out);have HK2:=HKB.out _ _ _ (HA.out.list.off HA.out.box);have x10:=HK2.1.cell (i:=10) rfl;have f10:=HK2.1.free 10;have HSZ:=Lib.hid HG2.out.size;clear HK2 HO2 HB2 HG2 HN2)
  all_goals
   go_wp2_with fail
   go_end0
   exact⟨rfl,⟨_,by rw[HT.out];exact HA.out.told HQ.out HKB.out⟩,HA.out.toldStay (t:=⟨d.id,o,y⟩) HZ.out HSZ.out HKB.out⟩
theorem m_m(X:World)(g:Nat)(q:Option Addr)(d:Drv)(st:St)(l:List Trb)(v:Value)(o:FleetMath.Ord)(s:Stp)(A:Option Addr)(k c:Nat)(seen:List Stp)(ce nl:Int)(w:World)(h:TS X g q d st l v w)(hs:Stps w w.heap.size A k seen)
 (sz1:1≤o.size) (sz2:o.size≤1000000) (ll1:-1000000≤st.load) (ll2:st.load≤1000000) (hid:o.id=s.ord) (hc:f_L d o seen st s=ce) (hn:(if b_v seen s then st.load else a_k o s st.load)=nl):
 Calls Tryz.prog 131 #[.pointer (some ⟨g,0,none⟩),ordV o,stpV s,.slice A k c] w (fun e w'=>e=.returned (.int .i64 ce)∧TS X g q d ⟨st.at_,st.left,nl⟩ l v w'∧Stay w w'):=by
 have HC:=Lib.hid hc;have HN:=Lib.hid hn;have HST:=Lib.hid hs;have hb1:Below w.heap.size w (w.alloc (.cells #[.int .i64 o.id,.int .i64 o.size,.int .i64 o.pick.place,.int .i64 o.pick.win.fr,.int .i64 o.pick.win.to,.int .i64 o.pick.serv,.int .i64 o.drop.place,.int .i64 o.drop.win.fr,.int .i64 o.drop.win.to,.int .i64 o.drop.serv] 31)):=(Below.refl _ _).alloc (Nat.le_refl _) _;obtain⟨u0,hu0⟩:∃u,(w.alloc (.cells #[.int .i64 o.id,.int .i64 o.size,.int .i64 o.pick.place,.int .i64 o.pick.win.fr,.int .i64 o.pick.win.to,.int .i64 o.pick.serv,.int .i64 o.drop.place,.int .i64 o.drop.win.fr,.int .i64 o.drop.win.to,.int .i64 o.drop.serv] 31)).alloc (.cells #[.int .i64 s.ord,.bool s.drop] 48)=u:=⟨_,rfl⟩;have HB0:Hid (Below w.heap.size w u0):=by rw[← hu0];exact hb1.alloc hb1.size _
 have HO0:Hid (OBox u0 w.heap.size o):=by
  rw[← hu0];exact OBox.below (o:=o) (Blk.new w _ _) ((Below.refl _ _).alloc (Nat.le_refl _) _)
 have HP0:Hid (Blk u0 (w.heap.size+1) 48 [.int .i64 s.ord,.bool s.drop]):=by
  have f:=Blk.new (w.alloc (.cells #[.int .i64 o.id,.int .i64 o.size,.int .i64 o.pick.place,.int .i64 o.pick.win.fr,.int .i64 o.pick.win.to,.int .i64 o.pick.serv,.int .i64 o.drop.place,.int .i64 o.drop.win.fr,.int .i64 o.drop.win.to,.int .i64 o.drop.serv] 31)) 48 [.int .i64 s.ord,.bool s.drop];rw[World.size_alloc]at f;rw[← hu0];exact f
 have HS0:Hid (TS X g q d st l v u0):=h.next HB0.out;have HZ0:Hid (Stay w u0):=Stay.of HB0.out;have HSN:Hid (Stps u0 u0.heap.size A k seen):=Recs.more (Recs.keep hs HB0.out) HB0.out.size;obtain⟨tf,htf⟩:∃t,decide (Stp.mk s.ord false∈seen)=t:=⟨_,rfl⟩;have HTF:=Lib.hid htf;have HID:=Lib.hid hid;clear h hs hc hn htf HST hb1 hid;go_enter Tryz.func131,Tryz.ntmps131;go_upto_region 1 with fail
 (try rw[hu0])
 clear hu0;cases hsd:s.drop with
 |true=>
  have y1:u0.cell? ⟨w.heap.size+1,1,none⟩=some (.bool true):=by rw[← hsd];exact HP0.out.cell rfl
  have y0:=OBox.cells (o:=o) HO0.out |>.1;rw[HID.out]at y0;go_wp2_with fail
  refine(j_X s.ord _).mono ?_;rintro e w1 ⟨rfl,hb1⟩;have HS1:=Lib.hid (HS0.out.next hb1);have HZ1:=Lib.hid (HZ0.out.next hb1);have HP1:=Lib.hid (HP0.out.below hb1 HP0.out.lt);have HO1:=Lib.hid (OBox.below (o:=o) HO0.out hb1);have HSN1:Hid (Stps w1 w1.heap.size A k seen):=Recs.more (Recs.keep HSN.out hb1) hb1.size;clear hb1 HS0 HZ0 HP0 HO0 HSN y0 y1;go_wp2_with fail
  refine(c_D A k c seen ⟨s.ord,false⟩ _ tf (by exact HSN1.out) HTF.out).mono ?_;rintro e w2 ⟨rfl,hb2⟩;have HS2:=Lib.hid (HS1.out.next hb2);have HZ2:=Lib.hid (HZ1.out.next hb2);have HP2:=Lib.hid (HP1.out.below hb2 HP1.out.lt);have HO2:=Lib.hid (OBox.below (o:=o) HO1.out hb2);clear hb2 HS1 HZ1 HP1 HO1 HSN1;have y1:w2.cell? ⟨w.heap.size+1,1,none⟩=some (.bool true):=by rw[← hsd];exact HP2.out.cell rfl
  cases tf with
  |false=>
   have hf:b_v seen s:=⟨hsd,of_decide_eq_false HTF.out⟩;have HE:Hid (17=ce):=by show _=_;rw[← HC.out];unfold f_L;rw[if_pos hf]
   have HL:Hid (st.load=nl):=by show _=_;rw[← HN.out,if_pos hf]
   clear hf;go_wp2_with fail
   go_ret;exact⟨a_5 HE.out,by rw[← HL.out];exact HS2.out,HZ2.out⟩
  |true=>
   have hf:¬b_v seen s:=fun h=>h.2 (of_decide_eq_true HTF.out);have HE:Hid (0=ce):=by show _=_;rw[← HC.out];unfold f_L;rw[if_neg hf,if_neg (by rw[hsd];rintro⟨h,_⟩;cases h)]
   have HL:Hid (st.load-o.size=nl):=by show _=_;rw[← HN.out,if_neg hf];unfold a_k;rw[hsd];rfl
   obtain⟨_,_,_,_,_,_,_,_,_,k9,_⟩:=HS2.out.box.cells;have kf:=Blk.free HS2.out.box 9;obtain⟨_,y2,_⟩:=OBox.cells (o:=o) HO2.out;clear hf;go_wp2_with fail
   go_region
   all_goals
    go_wp2_with fail
    go_ret;exact⟨a_5 HE.out,by rw[← HL.out];first|exact(HS2.out.load _).drew|exact HS2.out.drew.load _,by first|exact(HS2.out.loadStay HZ2.out _).drew|exact HS2.out.drew.loadStay HZ2.out.drew _⟩
 |false=>
  have y1:u0.cell? ⟨w.heap.size+1,1,none⟩=some (.bool false):=by rw[← hsd];exact HP0.out.cell rfl
  have hf:¬b_v seen s:=fun h=>by have:=h.1;rw[hsd]at this;cases this
  have hlo:a_k o s st.load=st.load+o.size:=by unfold a_k;rw[hsd];rfl
  have HL:Hid (st.load+o.size=nl):=by show _=_;rw[← HN.out,if_neg hf,hlo]
  have HCE:Hid ((if d.room<st.load+o.size then 14 else 0)=ce):=by
   show _=_;rw[← HC.out];unfold f_L;rw[if_neg hf,hlo];by_cases h1:d.room<st.load+o.size
   ·rw[if_pos h1,if_pos ⟨hsd,h1⟩]
   ·rw[if_neg h1,if_neg fun h=>h1 h.2]
  obtain⟨_,_,_,_,_,_,_,_,_,k9,_⟩:=HS0.out.box.cells;have kf:=Blk.free HS0.out.box 9;obtain⟨_,y2,_⟩:=OBox.cells (o:=o) HO0.out;clear hf hlo;go_wp2_with fail
  go_upto_region 6 with fail
  go_cut [] (fun wx=>Hid (TS X g q d ⟨st.at_,st.left,st.load+o.size⟩ l v wx)∧Hid (Stay w wx))
  case first=>
   go_region
   all_goals
    go_wp2_with fail
    go_meet
    exact⟨by first|exact(HS0.out.load _).drew|exact HS0.out.drew.load _,by first|exact(HS0.out.loadStay HZ0.out _).drew|exact HS0.out.drew.loadStay HZ0.out.drew _⟩
  case rest=>
  obtain⟨HS1,HZ1⟩:=hcut;obtain⟨w1,rfl⟩:∃u,u=wc:=⟨_,rfl⟩;clear HS0 HZ0 k9 kf y2 y1 HO0 HP0;obtain⟨_,_,k2,_,_,_,_,_,_,k9,_⟩:=HS1.out.box.cells;by_cases hr:d.room<st.load+o.size
  ·have HE:Hid (14=ce):=by show _=_;rw[← HCE.out,if_pos hr]
   clear HCE;go_wp2_with fail
   go_quiet (fail)
   go_wp2_with fail
   go_ret;exact⟨a_5 HE.out,by rw[← HL.out];exact HS1.out.drewN _,HZ1.out.drewN _⟩
  ·have HE:Hid (0=ce):=by show _=_;rw[← HCE.out,if_neg hr]
   clear HCE;go_wp2_with fail
   go_quiet (fail)
   go_wp2_with fail
   go_ret;exact⟨a_5 HE.out,by rw[← HL.out];exact HS1.out.drewN _,HZ1.out.drewN _⟩
theorem m_n(base bm mn:Nat)(ml:List Int)(X:World)(g:Nat)(d:Drv)(st:St)(l:List Trb)(v:Value)(si:Site)(tt bg se:Int)(w:World)(h:TS X g (some ⟨bm,0,none⟩) d st l v w)(hm:MapAt w 92 base bm mn ml)(hmn:mn≤12)
 (htt:time ⟨mn,ml⟩ st.at_ si.place=tt) (tb1:0≤tt) (tb2:tt≤1000000) (lf1:0≤st.left) (lf2:st.left≤1000000000) (sv1:0≤si.serv) (sv2:si.serv≤1000000) (wn1:0≤si.win.fr) (wn2:si.win.fr≤1000000)
 (hbg:(if st.left+tt<si.win.fr then si.win.fr else st.left+tt)=bg) (hse:f_M d si bg=se):
 Calls Tryz.prog 132 #[.pointer (some ⟨g,0,none⟩),h_7 si] w (fun e w'=>e=.returned (.int .i64 se)∧TS X g (some ⟨bm,0,none⟩) d ⟨si.place,bg+si.serv,st.load⟩ l v w'∧Stay w w'):=by
 have hmax:max (st.left+tt) si.win.fr=bg:=by
  rw[← hbg,Int.max_def];split<;>split<;>omega
 have bg1:0≤bg:=by rw[← hbg];split<;>omega
 have bg2:bg≤1002000000:=by rw[← hbg];split<;>omega
 have HT:=Lib.hid htt;have HSE:=Lib.hid hse;have hb:Below w.heap.size w (w.alloc (.cells #[.int .i64 si.place,.int .i64 si.win.fr,.int .i64 si.win.to,.int .i64 si.serv] 29)):=(Below.refl _ _).alloc (Nat.le_refl _) _;obtain⟨u0,hu0⟩:∃u,w.alloc (.cells #[.int .i64 si.place,.int .i64 si.win.fr,.int .i64 si.win.to,.int .i64 si.serv] 29)=u:=⟨_,rfl⟩;have HB0:Hid (Below w.heap.size w u0):=by rw[← hu0];exact hb
 have HX0:Hid (SBox u0 w.heap.size si):=by rw[← hu0];exact Blk.new w _ _
 have HS0:Hid (TS X g (some ⟨bm,0,none⟩) d st l v u0):=h.next HB0.out;have HZ0:Hid (Stay w u0):=Stay.of HB0.out;have HM0:Hid (∀ k,MapAt (u0.drewN k) 92 base bm mn ml):=fun k=>(hm.keep HB0.out (Nat.le_refl _)).drewN k;clear h hm htt hse hbg hb;go_enter Tryz.func132,Tryz.ntmps132;go_upto_region 1 with fail
 (try rw[hu0])
 clear hu0;obtain⟨k0,_,_,_,_,k5,_,k7,k8,_,_⟩:=HS0.out.box.cells;obtain⟨s0,s1,s2,s3⟩:=SBox.cells (s:=si) HX0.out;go_cut [5] (fun tv wx=>tv=.int .i64 tt∧Hid (TS X g (some ⟨bm,0,none⟩) d st l v wx)∧Hid (SBox wx w.heap.size si)∧Hid (Stay w wx))
 case first=>
  go_quiet ((go_at_call 192;with_reducible exact q_n base bm mn ml st.at_ si.place tt _ _ (HM0.out _) hmn HT.out))
  go_wp2_with fail
  go_meet
  exact⟨rfl,HS0.out.drewN _,HX0.out,HZ0.out.drewN _⟩
 case rest=>
 obtain⟨rfl,HS1,HX1,HZ1⟩:=hcut;obtain⟨w1,rfl⟩:∃u,u=wc:=⟨_,rfl⟩;clear HS0 HX0 HZ0 HM0 HB0 k0 k5 k7 k8 s0 s1 s2 s3;obtain⟨k0,_,_,_,_,k5,_,k7,k8,_,_⟩:=HS1.out.box.cells;obtain⟨s0,s1,s2,s3⟩:=SBox.cells (s:=si) HX1.out;go_upto_region 2 with fail
 go_cut [7] (fun bv wx=>bv=.int .i64 bg∧Hid (TS X g (some ⟨bm,0,none⟩) d st l v wx)∧Hid (SBox wx w.heap.size si)∧Hid (Stay w wx))
 case first=>
  go_region
  all_goals
   go_wp2_with fail
   go_meet
   exact⟨by first|rfl|rw[hmax],HS1.out.drew,HX1.out,HZ1.out.drew⟩
 case rest=>
 obtain⟨rfl,HS2,HX2,HZ2⟩:=hcut;obtain⟨w2,rfl⟩:∃u,u=wc:=⟨_,rfl⟩;clear HS1 HX1 HZ1 k0 k5 k7 k8 s0 s1 s2 s3;obtain⟨k0,_,_,_,_,k5,_,k7,k8,_,_⟩:=HS2.out.box.cells;obtain⟨s0,s1,s2,s3⟩:=SBox.cells (s:=si) HX2.out;have f7:=Blk.free HS2.out.box 7;have f8:=Blk.free HS2.out.box 8;go_upto_region 3 with fail
 go_cut [] (fun wx=>Hid (TS X g (some ⟨bm,0,none⟩) d ⟨si.place,bg+si.serv,st.load⟩ l v wx)∧Hid (SBox wx w.heap.size si)∧Hid (Stay w wx))
 case first=>
  have HXA:Hid (SBox ((w2.setCell ⟨g,7,none⟩ (.int .i64 si.place)).setCell ⟨g,8,none⟩ (.int .i64 (bg+si.serv))) w.heap.size si):=(HS2.out.goStay (Stay.refl w2) 7 8 _ _).2 _ _ _ (by decide) (by decide) HX2.out;have HXB:Hid (SBox ((w2.setCell ⟨g,8,none⟩ (.int .i64 (bg+si.serv))).setCell ⟨g,7,none⟩ (.int .i64 si.place)) w.heap.size si):=(HS2.out.goStay (Stay.refl w2) 8 7 _ _).2 _ _ _ (by decide) (by decide) HX2.out
  have hne:w.heap.size≠g:=fun e=>by
   have h1:=HX2.out;have h2:=HS2.out.box;unfold SBox Blk at h1;unfold KBox Blk at h2;rw[e,h2]at h1;injection h1 with h1;injection h1 with _ h1;exact absurd h1 (by decide)
  have hca:=b_7 hne.symm;have hcs:=a_c g;have hfs:=a_d;go_region
  all_goals
   go_wp2_with fail
   go_meet
   first
    |exact⟨(HS2.out.go _ _).drew,HXA.out,(HS2.out.goStay HZ2.out 7 8 _ _).drew⟩
    |exact⟨(HS2.out.og _ _).drew,HXB.out,(HS2.out.goStay HZ2.out 8 7 _ _).drew⟩
 case rest=>
 obtain⟨HS3,HX3,HZ3⟩:=hcut;obtain⟨w3,rfl⟩:∃u,u=wc:=⟨_,rfl⟩;clear HS2 HX2 HZ2 k0 k5 k7 k8 s0 s1 s2 s3 f7 f8;obtain⟨k0,_,_,_,_,k5,_,k7,k8,_,_⟩:=HS3.out.box.cells;obtain⟨s0,s1,s2,s3⟩:=SBox.cells (s:=si) HX3.out;by_cases h1:si.win.to<bg
 ·have HE:Hid (15=se):=by show _=_;rw[← HSE.out];unfold f_M;rw[if_pos (.inl h1)]
  go_wp2_with fail
  go_quiet (fail)
  go_wp2_with fail
  go_ret;exact⟨a_5 HE.out,HS3.out.drewN _,HZ3.out.drewN _⟩
 ·by_cases h2:d.win.to<bg+si.serv
  ·have HE:Hid (15=se):=by show _=_;rw[← HSE.out];unfold f_M;rw[if_pos (.inr h2)]
   go_wp2_with fail
   go_quiet (fail)
   go_wp2_with fail
   go_ret;exact⟨a_5 HE.out,HS3.out.drewN _,HZ3.out.drewN _⟩
  ·have HE:Hid (0=se):=by show _=_;rw[← HSE.out];unfold f_M;rw[if_neg (by rintro(h|h);exact h1 h;exact h2 h)]
   go_wp2_with fail
   go_quiet (fail)
   go_wp2_with fail
   go_ret;exact⟨a_5 HE.out,HS3.out.drewN _,HZ3.out.drewN _⟩
end Audit
namespace Audit
open Cert.OneR Slack
theorem m_o{w:World}{B n c k:Nat}{A:Option Addr}{xs:List Stp}(h:Stps w B A n xs)(hk:k<n)(hc:n≤c):Stps w B (Slack.partAt A (k+1) c) (n-(k+1)) (xs.drop (k+1)):=by
 have h1:=Stps.part (l:=k+1) (h:=n) h (by omega) (Nat.le_refl _) hc;rw[List.take_of_length_le (by rw[List.length_drop,h.length];omega)]at h1;exact h1
theorem n_5{base:Nat}(w:World)(t:Trb)(hb:base≤w.heap.size):OwnK (w.alloc (.cells (d_i t).toArray 130)) base 130 3 (.slice (some ⟨w.heap.size,0,none⟩) 1 1) 1 (d_i t):=
 ⟨⟨by simp,.inr ⟨w.heap.size,1,_,rfl,hb,heap_alloc_new w _,Nat.le_refl _,by unfold maxLen;omega,by simp,by simp⟩⟩,by unfold maxLen;omega⟩
theorem s_m{os:List FleetMath.Ord}{i:Int}{o:FleetMath.Ord}(h:find os i=some o):o∈os∧o.id=i:=c_d h
theorem j_3(base:Nat)(q:Option Addr)(m:Mp)(A:Option Addr)(n c:Nat)(ds:List Drv)(A2:Option Addr)(n2 c2:Nat)(os:List FleetMath.Ord)(x:RM)(w:World)(hxc:x.n≤x.c)(h80:x.n≤80)
 (h:MapP w 92 base (.pointer q) (some m)) (hdk:∀d∈ds,drvE (some m) d=0) (hk:a_V (some m) os=true) (hd:Drvs w w.heap.size A n ds) (ho:Ords w w.heap.size A2 n2 os) (hs:Stps w w.heap.size x.a x.n x.rt.stops):
 Calls Tryz.prog 72 #[.pointer q,.slice A n c,.slice A2 n2 c2,rteV x] w (c_X w 130 3 (b_C m ds os x.rt).length (d_Z (b_C m ds os x.rt))):=by
 obtain⟨mn,ml⟩:=m;obtain⟨rt,xa,xn,xc⟩:=x;simp only at hxc h80 hs;have hm3:=Recs.le hs;have HM:=Lib.hid h;have HD:=Lib.hid hd;have HO:=Lib.hid ho;have HST:=Lib.hid hs;have HL3:=Lib.hid hs.length;have HOK:=Lib.hid (e_v hk);have HDK:=Lib.hid hdk;obtain⟨bm,hbm⟩:=h_6 h;subst hbm;obtain⟨R,hR⟩:∃R,b_C ⟨mn,ml⟩ ds os rt=R:=⟨_,rfl⟩;have HR:=Lib.hid hR;show Calls _ _ #[.pointer (some ⟨bm,0,none⟩),.slice A n c,.slice A2 n2 c2,.agg #[.int .i64 rt.drv,.int .i64 rt.served,.slice xa xn xc]] _ _;rw[show b_C ⟨mn,ml⟩ ds os (RM.mk rt xa xn xc).rt=R from hR];obtain⟨od,hod⟩:∃z,a_o ds rt.drv=z:=⟨_,rfl⟩;have HOD:=Lib.hid hod;have HB0:Hid (Below w.heap.size w (w.alloc (.cells #[.int .i64 rt.drv,.int .i64 rt.served,.slice xa xn xc] 37))):=(Below.refl _ _).alloc (Nat.le_refl _) _;have HX0:Hid (RBox (w.alloc (.cells #[.int .i64 rt.drv,.int .i64 rt.served,.slice xa xn xc] 37)) w.heap.size ⟨rt,xa,xn,xc⟩):=Blk.new w _ _;clear h hk hd ho hs hdk hR hod;go_enter Tryz.func72,Tryz.ntmps72;go_wp2_with fail
 refine(l_7 A n c ds rt.drv od _ (by exact Recs.more (Recs.keep HD.out HB0.out) HB0.out.size) HOD.out).mono ?_;rintro e w1 ⟨rfl,hb1⟩;have HB1:=Lib.hid (HB0.out.trans (hb1.mono HB0.out.size));have HX1:Hid (RBox w1 w.heap.size ⟨rt,xa,xn,xc⟩):=RBox.below (x:=⟨rt,xa,xn,xc⟩) HX0.out hb1;clear hb1 HB0 HX0;cases od with
 |none=>
  have hv:f_s none=.tuple #[.agg #[.int .i64 0,.int .i64 0,.int .i64 0,.int .i64 0,.int .i64 0,.bool false],.bool false]:=rfl;rw[hv];clear hv;have HF:Hid (R=[⟨rt.drv,0,8⟩]):=HR.out.symm.trans (f_J HOD.out);have HB2:Hid (Below w.heap.size w (w1.alloc (.cells #[.int .i64 0,.int .i64 0,.int .i64 0,.int .i64 0,.int .i64 0,.bool false] 33))):=HB1.out.alloc HB1.out.size _;have HX2:Hid (RBox (w1.alloc (.cells #[.int .i64 0,.int .i64 0,.int .i64 0,.int .i64 0,.int .i64 0,.bool false] 33)) w.heap.size ⟨rt,xa,xn,xc⟩):=RBox.below (x:=⟨rt,xa,xn,xc⟩) HX1.out ((Below.refl _ _).alloc (Nat.le_refl _) _);obtain⟨r0,r1,r2⟩:=RBox.cells (x:=⟨rt,xa,xn,xc⟩) HX2.out;go_wp2_with fail
  go_ret;rw[HF.out];refine⟨_,rfl,HB2.out.alloc HB2.out.size _,?_⟩;have h1:=n_5 (w1.alloc (.cells #[.int .i64 0,.int .i64 0,.int .i64 0,.int .i64 0,.int .i64 0,.bool false] 33)) ⟨rt.drv,0,8⟩ HB2.out.size;rw[World.size_alloc]at h1;exact h1
 |some d=>
  have hv:f_s (some d)=.tuple #[drvV d,.bool true]:=rfl;rw[hv];clear hv;have HDE:Hid (drvE (some ⟨mn,ml⟩) d=0):=HDK.out d (List.mem_of_find?_eq_some HOD.out);obtain⟨m',hm',hdo⟩:=drvE_ok.1 HDE.out;injection hm' with hm';subst hm';have HOA0:Hid (OA (st0 d) 0):=OA.start hdo;have HRM:Hid (R=f_I ⟨mn,ml⟩ d os rt.stops):=HR.out.symm.trans (f_K HOD.out);obtain⟨X,hX⟩:∃X,a_1 ⟨mn,ml⟩ d os [] (st0 d) rt.stops=X:=⟨_,rfl⟩;have HX:=Lib.hid hX;have HG0:Hid (X=[]++a_1 ⟨mn,ml⟩ d os (rt.stops.take 0) (st0 d) (rt.stops.drop 0)):=by show _=_;rw[← hX];simp
  have HB2:Hid (Below w.heap.size w (w1.alloc (.cells #[.int .i64 d.id,.int .i64 d.room,.int .i64 d.home,.int .i64 d.win.fr,.int .i64 d.win.to,.bool d.retired] 33))):=HB1.out.alloc HB1.out.size _;have HB3:Hid (Below w.heap.size w ((w1.alloc (.cells #[.int .i64 d.id,.int .i64 d.room,.int .i64 d.home,.int .i64 d.win.fr,.int .i64 d.win.to,.bool d.retired] 33)).alloc (.cells #[.pointer (some ⟨bm,0,none⟩),.int .i64 d.id,.int .i64 d.room,.int .i64 d.home,.int .i64 d.win.fr,.int .i64 d.win.to,.bool d.retired,.int .i64 d.home,.int .i64 d.win.fr,.int .i64 0,.slice none 0 0] 193))):=HB2.out.alloc HB2.out.size _;have HX3:Hid (RBox ((w1.alloc (.cells #[.int .i64 d.id,.int .i64 d.room,.int .i64 d.home,.int .i64 d.win.fr,.int .i64 d.win.to,.bool d.retired] 33)).alloc (.cells #[.pointer (some ⟨bm,0,none⟩),.int .i64 d.id,.int .i64 d.room,.int .i64 d.home,.int .i64 d.win.fr,.int .i64 d.win.to,.bool d.retired,.int .i64 d.home,.int .i64 d.win.fr,.int .i64 0,.slice none 0 0] 193)) w.heap.size ⟨rt,xa,xn,xc⟩):=RBox.below (x:=⟨rt,xa,xn,xc⟩) (RBox.below (x:=⟨rt,xa,xn,xc⟩) HX1.out ((Below.refl _ _).alloc (Nat.le_refl _) (.cells #[.int .i64 d.id,.int .i64 d.room,.int .i64 d.home,.int .i64 d.win.fr,.int .i64 d.win.to,.bool d.retired] 33))) ((Below.refl _ _).alloc (Nat.le_refl _) _);have HG3:Hid (w.heap.size≤w1.heap.size+1):=by show _≤_;have:=HB1.out.size;omega
  have HS3:Hid (TS w (w1.heap.size+1) (some ⟨bm,0,none⟩) d (st0 d) [] (.slice none 0 0) ((w1.alloc (.cells #[.int .i64 d.id,.int .i64 d.room,.int .i64 d.home,.int .i64 d.win.fr,.int .i64 d.win.to,.bool d.retired] 33)).alloc (.cells #[.pointer (some ⟨bm,0,none⟩),.int .i64 d.id,.int .i64 d.room,.int .i64 d.home,.int .i64 d.win.fr,.int .i64 d.win.to,.bool d.retired,.int .i64 d.home,.int .i64 d.win.fr,.int .i64 0,.slice none 0 0] 193))):=by
   refine⟨(TL.start w).next HB3.out,HG3.out,?_⟩;have h1:=Blk.new (w1.alloc (.cells #[.int .i64 d.id,.int .i64 d.room,.int .i64 d.home,.int .i64 d.win.fr,.int .i64 d.win.to,.bool d.retired] 33)) 193 [.pointer (some ⟨bm,0,none⟩),.int .i64 d.id,.int .i64 d.room,.int .i64 d.home,.int .i64 d.win.fr,.int .i64 d.win.to,.bool d.retired,.int .i64 d.home,.int .i64 d.win.fr,.int .i64 0,.slice none 0 0];rw[World.size_alloc]at h1;exact h1
  clear hX hdo HB2 HG3;go_upto_region 5 with fail
  obtain⟨g,hg⟩:∃g,w1.heap.size+1=g:=⟨_,rfl⟩;obtain⟨W0,hW0⟩:∃u,(w1.alloc (.cells #[.int .i64 d.id,.int .i64 d.room,.int .i64 d.home,.int .i64 d.win.fr,.int .i64 d.win.to,.bool d.retired] 33)).alloc (.cells #[.pointer (some ⟨bm,0,none⟩),.int .i64 d.id,.int .i64 d.room,.int .i64 d.home,.int .i64 d.win.fr,.int .i64 d.win.to,.bool d.retired,.int .i64 d.home,.int .i64 d.win.fr,.int .i64 0,.slice none 0 0] 193)=u:=⟨_,rfl⟩;rw[hg,hW0]at HS3;rw[hW0]at HB3 HX3
  (try rw[hg])
  (try rw[hW0])
  clear hg hW0 HB1 HX1;obtain⟨r0,r1,r2⟩:=RBox.cells (x:=⟨rt,xa,xn,xc⟩) HX3.out;have HZ3:Hid (Stay W0 W0):=Stay.refl _;go_wp2_with fail
  clear r0 r1 r2;go_loopw [44] (fun iv wr=>∃(k:Nat) (st:St) (l:List Trb) (v:Value),k≤xn∧iv=.int .i64 k∧Hid (TS w g (some ⟨bm,0,none⟩) d st l v wr)∧Hid (Stay W0 wr)∧Hid (X=l++a_1 ⟨mn,ml⟩ d os (rt.stops.take k) st (rt.stops.drop k))∧Hid (OA st k)∧Hid (l.length≤2*k)) (fun i _=>xn-(intOf i).toNat)
  case atStart=>exact⟨0,st0 d,[],_,Nat.zero_le _,rfl,HS3,HZ3,HG0,HOA0,Lib.hid (by simp)⟩
  case round=>
   clear HS3 HZ3 HG0 HOA0;obtain⟨k,st,l,v,hk,rfl,HS,HZ,HG,HB,HLN⟩:=hrel;by_cases hlt:k<xn
   case neg=>
    have HE:Hid (X=l):=by
     show _=_;have h1:=HG.out;rw[List.drop_of_length_le (by have:=HL3.out;omega)]at h1;exact s_7 h1
    have HL0:Hid (R=l++b_9 d os (rt.stops.drop 0)):=by
     show _=_;rw[HRM.out,←HE.out,←HX.out,List.drop_zero];rfl
    have HLN1:Hid (l.length≤200):=by show _≤_;have:=HLN.out;omega
    have hx3:RBox wr w.heap.size ⟨rt,xa,xn,xc⟩:=HZ.out.2 _ _ _ (by decide) (by decide) HX3.out;obtain⟨r0,r1,r2⟩:=RBox.cells (x:=⟨rt,xa,xn,xc⟩) hx3;clear HG HB HX HE HLN hx3;go_wp2_with fail
    clear r0 r1 r2;go_loopw [82] (fun iv wz=>∃(k:Nat) (l:List Trb) (v:Value),k≤xn∧iv=.int .i64 k∧Hid (TS w g (some ⟨bm,0,none⟩) d st l v wz)∧Hid (Stay W0 wz)∧Hid (R=l++b_9 d os (rt.stops.drop k))∧Hid (l.length≤200+k)) (fun i _=>xn-(intOf i).toNat)
    case atStart=>exact⟨0,l,v,Nat.zero_le _,rfl,HS,HZ,HL0,Lib.hid (by have:=HLN1.out;omega)⟩
    case round=>
     clear HS HZ HL0 HLN1 hlt hk;obtain⟨k,l,v,hk,rfl,HS,HZ,HG,HLN⟩:=hrel;by_cases hlt:k<xn
     case neg=>
      have HE:Hid (R=l):=by
       show _=_;have h1:=HG.out;rw[List.drop_of_length_le (by have:=HL3.out;omega)]at h1;exact s_8 h1
      obtain⟨k0,k1,k2,k3,k4,k5,k6,k7,k8,k9,k10⟩:=HS.out.box.cells;clear HG;go_wp2_with fail
      go_ret;show c_X _ _ _ _ _ (Ending.returned v) _;rw[HE.out];exact⟨_,rfl,HS.out.old,HS.out.list.own⟩
     obtain⟨b3,off3,s,hA3,hbb3,hs,hdr3,c0,c1⟩:=Stps.at_ (Recs.keep HST.out HS.out.old) hlt;have HG1:=HG.out;rw[hdr3]at HG1;have HG2:=Lib.hid HG1;have hz1:Below wr.heap.size wr (wr.alloc (.cells #[.int .i64 s.ord,.bool s.drop] 48)):=(Below.refl _ _).alloc (Nat.le_refl _) _;have HS2:Hid (TS w g (some ⟨bm,0,none⟩) d st l v (wr.alloc (.cells #[.int .i64 s.ord,.bool s.drop] 48))):=HS.out.next hz1;have HZ2:Hid (Stay W0 (wr.alloc (.cells #[.int .i64 s.ord,.bool s.drop] 48))):=HZ.out.next hz1;have HK2:Hid (Blk (wr.alloc (.cells #[.int .i64 s.ord,.bool s.drop] 48)) wr.heap.size 48 [.int .i64 s.ord,.bool s.drop]):=Blk.new wr _ _;obtain⟨of,hof⟩:∃z,find os s.ord=z:=⟨_,rfl⟩;have HOF:=Lib.hid hof;obtain⟨t3,ht3⟩:∃t,decide (Stp.mk s.ord true∈rt.stops.drop (k+1))=t:=⟨_,rfl⟩;have HT3:=Lib.hid ht3;clear hs hdr3 HG1 HG hz1 HS HZ hof ht3;subst hA3;go_upto_region 17 with fail
     obtain⟨gs,hgs⟩:∃g,wr.heap.size=g:=⟨_,rfl⟩;obtain⟨w2,hw2⟩:∃u,wr.alloc (.cells #[.int .i64 s.ord,.bool s.drop] 48)=u:=⟨_,rfl⟩;rw[hgs]at HK2;rw[hw2]at HS2 HZ2 HK2
     (try rw[hgs])
     (try rw[hw2])
     clear hgs hw2 c0 c1;obtain⟨c0,c1⟩:w2.cell? ⟨gs,0,none⟩=some (.int .i64 s.ord)∧w2.cell? ⟨gs,1,none⟩=some (.bool s.drop):=⟨HK2.out.cell rfl,HK2.out.cell rfl⟩;go_wp2_with fail
     refine(g_3 A2 n2 c2 os s.ord of _ (by exact Recs.more (Recs.keep HO.out HS2.out.old) HS2.out.old.size) HOF.out).mono ?_;rintro e w3 ⟨rfl,hb3⟩;have HS3:=Lib.hid (HS2.out.next hb3);have HZ3:=Lib.hid (HZ2.out.next hb3);have HK3:=Lib.hid (HK2.out.below hb3 HK2.out.lt)
     obtain⟨o,tf,hfv,hf1,hf0⟩:∃(o:FleetMath.Ord) (tf:Bool),j_5 of=.tuple #[.agg #[.int .i64 o.id,.int .i64 o.size,.int .i64 o.pick.place,.int .i64 o.pick.win.fr,.int .i64 o.pick.win.to,.int .i64 o.pick.serv,.int .i64 o.drop.place,.int .i64 o.drop.win.fr,.int .i64 o.drop.win.to,.int .i64 o.drop.serv],.bool tf]∧(tf=true→of.isSome=true)∧(tf=false→of.isSome=false):=by
      cases of with
      |none=>exact⟨t_a,false,rfl,fun h=>(by cases h),fun _=>rfl⟩
      |some o=>exact⟨o,true,rfl,fun _=>rfl,fun h=>(by cases h)⟩
     rw[hfv]
     have HFS:Hid (tf=true↔(find os s.ord).isSome=true):=by
      show _↔_;rw[HOF.out];exact⟨hf1,fun h=>by cases tf with|true=>rfl|false=>rw[hf0 rfl]at h;cases h⟩
     have hz4:Below w3.heap.size w3 (w3.alloc (.cells #[.int .i64 o.id,.int .i64 o.size,.int .i64 o.pick.place,.int .i64 o.pick.win.fr,.int .i64 o.pick.win.to,.int .i64 o.pick.serv,.int .i64 o.drop.place,.int .i64 o.drop.win.fr,.int .i64 o.drop.win.to,.int .i64 o.drop.serv] 31)):=(Below.refl _ _).alloc (Nat.le_refl _) _;have HS4:=Lib.hid (HS3.out.next hz4);have HZ4:=Lib.hid (HZ3.out.next hz4);have HK4:=Lib.hid (HK3.out.below hz4 HK3.out.lt);clear hz4 HS3 HZ3 HK3 hb3 HS2 HZ2 HK2 c0 c1 hfv hf1 hf0;go_upto_region 18 with fail
     obtain⟨w4,hw4⟩:∃u,w3.alloc (.cells #[.int .i64 o.id,.int .i64 o.size,.int .i64 o.pick.place,.int .i64 o.pick.win.fr,.int .i64 o.pick.win.to,.int .i64 o.pick.serv,.int .i64 o.drop.place,.int .i64 o.drop.win.fr,.int .i64 o.drop.win.to,.int .i64 o.drop.serv] 31)=u:=⟨_,rfl⟩;rw[hw4]at HS4 HZ4 HK4
     (try rw[hw4])
     clear hw4;go_cut [111] (fun bv wx=>∃t:Bool,bv=.bool t∧Hid (t=true↔s.drop=false∧(find os s.ord).isSome=true∧Stp.mk s.ord true∉rt.stops.drop (k+1))∧Hid (Below w4.heap.size w4 wx))
     case first=>
      cases tf with
      |false=>
       have HY:Hid (false=true↔s.drop=false∧(find os s.ord).isSome=true∧Stp.mk s.ord true∉rt.stops.drop (k+1)):=⟨fun h=>(by cases h),fun h=>HFS.out.2 h.2.1⟩;refine a_s (valRF [94,95,96,97,98,99,100,101,102,103,104,105,106,107,108,109,110,111] [.bool false,.bool false,undef,undef,undef,.bool false,.bool false,undef,undef,undef,undef,undef,undef,undef,undef,undef,undef,.bool false]) (by kernel_rfl) (by kernel_rfl) (by kernel_rfl) (fun _ _=>rfl) (by kernel_rfl) valRF.mon ?_ ?_
       ·refine⟨?_,?_,?_,?_,?_,?_,?_,?_,?_,?_,?_,?_,?_,?_,?_,?_,?_,?_,trivial⟩
        ·exact valRF.pureStep rfl 94 rfl rfl (by simp) _ rfl fun listed a u D hI hr hn=>a_a (.inl rfl) (hI.out 19 (by kernel_rfl))
        ·exact valRF.pureStep rfl 95 rfl rfl (by simp) _ rfl fun listed a u D hI hr hn=>a_a (.inl rfl) (valRF.val hI hr hn 0 (by kernel_rfl) rfl rfl)
        ·exact valRF.skipStep 96 rfl rfl (by simp) rfl fun listed a u D hI hr hn=>a_F (t:=95) rfl (by kernel_rfl) (valRF.val hI hr hn 1 (by kernel_rfl) rfl rfl)
        ·exact valRF.skipStep 97 rfl rfl (by simp) rfl fun listed a u D hI hr hn=>a_F (t:=95) rfl (by kernel_rfl) (valRF.val hI hr hn 1 (by kernel_rfl) rfl rfl)
        ·exact valRF.skipStep 98 rfl rfl (by simp) rfl fun listed a u D hI hr hn=>a_F (t:=95) rfl (by kernel_rfl) (valRF.val hI hr hn 1 (by kernel_rfl) rfl rfl)
        ·exact valRF.pureStep rfl 99 rfl rfl (by simp) _ rfl fun listed a u D hI hr hn=>f_X rfl (valRF.val hI hr hn 1 (by kernel_rfl) rfl rfl)
        ·exact valRF.pureStep rfl 100 rfl rfl (by simp) _ rfl fun listed a u D hI hr hn=>a_a (.inl rfl) (valRF.val hI hr hn 5 (by kernel_rfl) rfl rfl)
        ·exact valRF.skipStep 101 rfl rfl (by simp) rfl fun listed a u D hI hr hn=>a_F (t:=100) rfl (by kernel_rfl) (valRF.val hI hr hn 6 (by kernel_rfl) rfl rfl)
        ·exact valRF.skipStep 102 rfl rfl (by simp) rfl fun listed a u D hI hr hn=>a_F (t:=100) rfl (by kernel_rfl) (valRF.val hI hr hn 6 (by kernel_rfl) rfl rfl)
        ·exact valRF.skipStep 103 rfl rfl (by simp) rfl fun listed a u D hI hr hn=>a_F (t:=100) rfl (by kernel_rfl) (valRF.val hI hr hn 6 (by kernel_rfl) rfl rfl)
        ·exact valRF.skipStep 104 rfl rfl (by simp) rfl fun listed a u D hI hr hn=>a_F (t:=100) rfl (by kernel_rfl) (valRF.val hI hr hn 6 (by kernel_rfl) rfl rfl)
        ·exact valRF.skipStep 105 rfl rfl (by simp) rfl fun listed a u D hI hr hn=>a_F (t:=100) rfl (by kernel_rfl) (valRF.val hI hr hn 6 (by kernel_rfl) rfl rfl)
        ·exact valRF.skipStep 106 rfl rfl (by simp) rfl fun listed a u D hI hr hn=>a_F (t:=100) rfl (by kernel_rfl) (valRF.val hI hr hn 6 (by kernel_rfl) rfl rfl)
        ·exact valRF.skipStep 107 rfl rfl (by simp) rfl fun listed a u D hI hr hn=>a_F (t:=100) rfl (by kernel_rfl) (valRF.val hI hr hn 6 (by kernel_rfl) rfl rfl)
        ·exact valRF.skipStep 108 rfl rfl (by simp) rfl fun listed a u D hI hr hn=>a_F (t:=100) rfl (by kernel_rfl) (valRF.val hI hr hn 6 (by kernel_rfl) rfl rfl)
        ·exact valRF.skipStep 109 rfl rfl (by simp) rfl fun listed a u D hI hr hn=>a_F (t:=100) rfl (by kernel_rfl) (valRF.val hI hr hn 6 (by kernel_rfl) rfl rfl)
        ·exact valRF.skipStep 110 rfl rfl (by simp) rfl fun listed a u D hI hr hn=>a_F (t:=100) rfl (by kernel_rfl) (valRF.val hI hr hn 6 (by kernel_rfl) rfl rfl)
        ·exact valRF.pureStep rfl 111 rfl rfl (by simp) _ rfl fun listed a u D hI hr hn=>f_X rfl (valRF.val hI hr hn 6 (by kernel_rfl) rfl rfl)
       ·intro listed a u D hI hall
        have eR0:a.tmps.getD 111 undef=.bool false:=(hI.fact 17 ⟨hall 17 (by simp),fun k hk=>by cases hk⟩).1;have hold:=OneR.below_drew hI.old;have hl:=hI.fill [94,95,96,97,98,99,100,101,102,103,104,105,106,107,108,109,110,111] (by kernel_rfl);clear hI hall;obtain⟨σ,hσ⟩:∃σ:Nat→Value,∀t,a.tmps.getD t undef=σ t:=⟨_,fun _=>rfl⟩;simp only[hσ]at hl eR0;clear hσ;simp only[List.foldl_cons,List.foldl_nil,List.setIfInBounds_toArray,List.set_cons_zero,List.set_cons_succ,eR0]at hl;subst hl;go_wp2_with fail
        go_meet
        exact⟨false,rfl,HY,hold⟩
      |true=>
       cases hsd:s.drop with
       |true=>
        have HC:Hid (∀ u,Below w4.heap.size w4 u→u.cell? ⟨gs,0,none⟩=some (.int .i64 s.ord)∧u.cell? ⟨gs,1,none⟩=some (.bool true)):=fun u hu=>by
         have h1:=HK4.out.below hu HK4.out.lt;rw[hsd]at h1;exact⟨h1.cell rfl,h1.cell rfl⟩
        have HY:Hid (false=true↔s.drop=false∧(find os s.ord).isSome=true∧Stp.mk s.ord true∉rt.stops.drop (k+1)):=⟨fun h=>(by cases h),fun h=>(by have:=h.1;rw[hsd]at this;cases this)⟩;refine a_s (valRF [94,95,96,97,98,99,100,101,102,103,104,105,106,107,108,109,110,111] [.bool true,.bool true,.pointer (some ⟨gs,1,none⟩),.bool true,.bool false,.bool false,.bool false,undef,undef,undef,undef,undef,undef,undef,undef,undef,undef,.bool false]) (by kernel_rfl) (by kernel_rfl) (by kernel_rfl) (fun _ _=>rfl) (by kernel_rfl) valRF.mon ?_ ?_
        ·refine⟨?_,?_,?_,?_,?_,?_,?_,?_,?_,?_,?_,?_,?_,?_,?_,?_,?_,?_,trivial⟩
         ·exact valRF.pureStep rfl 94 rfl rfl (by simp) _ rfl fun listed a u D hI hr hn=>a_a (.inl rfl) (hI.out 19 (by kernel_rfl))
         ·exact valRF.pureStep rfl 95 rfl rfl (by simp) _ rfl fun listed a u D hI hr hn=>a_a (.inl rfl) (valRF.val hI hr hn 0 (by kernel_rfl) rfl rfl)
         ·exact valRF.pureStepG 96 rfl rfl (by simp) _ rfl fun listed a u D hI hr hn=>⟨a_m (t:=95) rfl (by kernel_rfl) (valRF.val hI hr hn 1 (by kernel_rfl) rfl rfl),a_H rfl (hI.out 17 (by kernel_rfl)) (by simp[go_sem])⟩
         ·exact valRF.pureStepG 97 rfl rfl (by simp) _ rfl fun listed a u D hI hr hn=>⟨a_m (t:=95) rfl (by kernel_rfl) (valRF.val hI hr hn 1 (by kernel_rfl) rfl rfl),a_f rfl (valRF.val hI hr hn 2 (by kernel_rfl) rfl rfl) (g_d (HC.out _ (OneR.below_drew hI.old)).2)⟩
         ·exact valRF.pureStepG 98 rfl rfl (by simp) _ rfl fun listed a u D hI hr hn=>⟨a_m (t:=95) rfl (by kernel_rfl) (valRF.val hI hr hn 1 (by kernel_rfl) rfl rfl),f_u rfl (valRF.val hI hr hn 3 (by kernel_rfl) rfl rfl)⟩
         ·exact valRF.pureStep rfl 99 rfl rfl (by simp) _ rfl fun listed a u D hI hr hn=>h_4 rfl (valRF.val hI hr hn 1 (by kernel_rfl) rfl rfl) (valRF.val hI hr hn 4 (by kernel_rfl) rfl rfl) (Bool.true_and _)
         ·exact valRF.pureStep rfl 100 rfl rfl (by simp) _ rfl fun listed a u D hI hr hn=>a_a (.inl rfl) (valRF.val hI hr hn 5 (by kernel_rfl) rfl rfl)
         ·exact valRF.skipStep 101 rfl rfl (by simp) rfl fun listed a u D hI hr hn=>a_F (t:=100) rfl (by kernel_rfl) (valRF.val hI hr hn 6 (by kernel_rfl) rfl rfl)
         ·exact valRF.skipStep 102 rfl rfl (by simp) rfl fun listed a u D hI hr hn=>a_F (t:=100) rfl (by kernel_rfl) (valRF.val hI hr hn 6 (by kernel_rfl) rfl rfl)
         ·exact valRF.skipStep 103 rfl rfl (by simp) rfl fun listed a u D hI hr hn=>a_F (t:=100) rfl (by kernel_rfl) (valRF.val hI hr hn 6 (by kernel_rfl) rfl rfl)
         ·exact valRF.skipStep 104 rfl rfl (by simp) rfl fun listed a u D hI hr hn=>a_F (t:=100) rfl (by kernel_rfl) (valRF.val hI hr hn 6 (by kernel_rfl) rfl rfl)
         ·exact valRF.skipStep 105 rfl rfl (by simp) rfl fun listed a u D hI hr hn=>a_F (t:=100) rfl (by kernel_rfl) (valRF.val hI hr hn 6 (by kernel_rfl) rfl rfl)
         ·exact valRF.skipStep 106 rfl rfl (by simp) rfl fun listed a u D hI hr hn=>a_F (t:=100) rfl (by kernel_rfl) (valRF.val hI hr hn 6 (by kernel_rfl) rfl rfl)
         ·exact valRF.skipStep 107 rfl rfl (by simp) rfl fun listed a u D hI hr hn=>a_F (t:=100) rfl (by kernel_rfl) (valRF.val hI hr hn 6 (by kernel_rfl) rfl rfl)
         ·exact valRF.skipStep 108 rfl rfl (by simp) rfl fun listed a u D hI hr hn=>a_F (t:=100) rfl (by kernel_rfl) (valRF.val hI hr hn 6 (by kernel_rfl) rfl rfl)
         ·exact valRF.skipStep 109 rfl rfl (by simp) rfl fun listed a u D hI hr hn=>a_F (t:=100) rfl (by kernel_rfl) (valRF.val hI hr hn 6 (by kernel_rfl) rfl rfl)
         ·exact valRF.skipStep 110 rfl rfl (by simp) rfl fun listed a u D hI hr hn=>a_F (t:=100) rfl (by kernel_rfl) (valRF.val hI hr hn 6 (by kernel_rfl) rfl rfl)
         ·exact valRF.pureStep rfl 111 rfl rfl (by simp) _ rfl fun listed a u D hI hr hn=>f_X rfl (valRF.val hI hr hn 6 (by kernel_rfl) rfl rfl)
        ·intro listed a u D hI hall
         have eR0:a.tmps.getD 111 undef=.bool false:=(hI.fact 17 ⟨hall 17 (by simp),fun k hk=>by cases hk⟩).1;have hold:=OneR.below_drew hI.old;have hl:=hI.fill [94,95,96,97,98,99,100,101,102,103,104,105,106,107,108,109,110,111] (by kernel_rfl);clear hI hall;obtain⟨σ,hσ⟩:∃σ:Nat→Value,∀t,a.tmps.getD t undef=σ t:=⟨_,fun _=>rfl⟩;simp only[hσ]at hl eR0;clear hσ;simp only[List.foldl_cons,List.foldl_nil,List.setIfInBounds_toArray,List.set_cons_zero,List.set_cons_succ,eR0]at hl;subst hl;go_wp2_with fail
         go_meet
         exact⟨false,rfl,HY,hold⟩
       |false=>
        have HC:Hid (∀ u,Below w4.heap.size w4 u→(u.cell? ⟨gs,0,none⟩=some (.int .i64 s.ord)∧u.cell? ⟨gs,1,none⟩=some (.bool false))∧u.cell? ⟨w.heap.size,2,none⟩=some (.slice (some ⟨b3,off3,none⟩) xn xc)):=fun u hu=>by
         have h1:=HK4.out.below hu HK4.out.lt;rw[hsd]at h1;exact⟨⟨h1.cell rfl,h1.cell rfl⟩,(RBox.cells (x:=⟨rt,(some ⟨b3,off3,none⟩),xn,xc⟩) ((HZ4.out.next hu).2 _ _ _ (by decide) (by decide) HX3.out)).2.2⟩
        have HY:Hid ((!t3)=true↔s.drop=false∧(find os s.ord).isSome=true∧Stp.mk s.ord true∉rt.stops.drop (k+1)):=by
         show _↔_;rw[← HT3.out,hsd];simp[HFS.out.1 rfl]
        have HDL:Hid (∀ u,Calls Tryz.prog 135 #[.int .i64 s.ord] u fun e u'=>e=.returned (stpV ⟨s.ord,true⟩)∧Below u.heap.size u u'):=fun u=>h_H s.ord u
        have HCN:Hid (∀ u,Below w4.heap.size w4 u→Calls Tryz.prog 134 #[.slice (Slack.partAt (some ⟨b3,off3,none⟩) (k+1) xc) (xn-(k+1)) (xc-(k+1)),stpV ⟨s.ord,true⟩] u fun e u'=>e=.returned (.bool t3)∧Below u.heap.size u u'):=fun u hu=>by
         have h0:=(HS4.out.next hu).old;exact c_D _ _ _ (rt.stops.drop (k+1)) ⟨s.ord,true⟩ u t3 (m_o (Recs.more (Recs.keep HST.out h0) h0.size) hlt hxc) HT3.out
        refine a_s (valRF [94,95,96,97,98,99,100,101,102,103,104,105,106,107,108,109,110,111] [.bool true,.bool true,.pointer (some ⟨gs,1,none⟩),.bool false,.bool true,.bool true,.bool true,.pointer (some ⟨w.heap.size,2,none⟩),.slice (some ⟨b3,off3,none⟩) xn xc,.int .i64 ((k:Nat):Int),.int .i64 ((k+1:Nat):Int),.slice (Slack.partAt (some ⟨b3,off3,none⟩) (k+1) xc) (xn-(k+1)) (xc-(k+1)),.pointer (some ⟨gs,0,none⟩),.int .i64 s.ord,stpV ⟨s.ord,true⟩,.bool t3,.bool (!t3),.bool (!t3)]) (by kernel_rfl) (by kernel_rfl) (by kernel_rfl) (fun _ _=>rfl) (by kernel_rfl) valRF.mon ?_ ?_
        ·refine⟨?_,?_,?_,?_,?_,?_,?_,?_,?_,?_,?_,?_,?_,?_,?_,?_,?_,?_,trivial⟩
         ·exact valRF.pureStep rfl 94 rfl rfl (by simp) _ rfl fun listed a u D hI hr hn=>a_a (.inl rfl) (hI.out 19 (by kernel_rfl))
         ·exact valRF.pureStep rfl 95 rfl rfl (by simp) _ rfl fun listed a u D hI hr hn=>a_a (.inl rfl) (valRF.val hI hr hn 0 (by kernel_rfl) rfl rfl)
         ·exact valRF.pureStepG 96 rfl rfl (by simp) _ rfl fun listed a u D hI hr hn=>⟨a_m (t:=95) rfl (by kernel_rfl) (valRF.val hI hr hn 1 (by kernel_rfl) rfl rfl),a_H rfl (hI.out 17 (by kernel_rfl)) (by simp[go_sem])⟩
         ·exact valRF.pureStepG 97 rfl rfl (by simp) _ rfl fun listed a u D hI hr hn=>⟨a_m (t:=95) rfl (by kernel_rfl) (valRF.val hI hr hn 1 (by kernel_rfl) rfl rfl),a_f rfl (valRF.val hI hr hn 2 (by kernel_rfl) rfl rfl) (g_d (HC.out _ (OneR.below_drew hI.old)).1.2)⟩
         ·exact valRF.pureStepG 98 rfl rfl (by simp) _ rfl fun listed a u D hI hr hn=>⟨a_m (t:=95) rfl (by kernel_rfl) (valRF.val hI hr hn 1 (by kernel_rfl) rfl rfl),f_u rfl (valRF.val hI hr hn 3 (by kernel_rfl) rfl rfl)⟩
         ·exact valRF.pureStep rfl 99 rfl rfl (by simp) _ rfl fun listed a u D hI hr hn=>h_4 rfl (valRF.val hI hr hn 1 (by kernel_rfl) rfl rfl) (valRF.val hI hr hn 4 (by kernel_rfl) rfl rfl) (Bool.true_and _)
         ·exact valRF.pureStep rfl 100 rfl rfl (by simp) _ rfl fun listed a u D hI hr hn=>a_a (.inl rfl) (valRF.val hI hr hn 5 (by kernel_rfl) rfl rfl)
         ·exact valRF.pureStepG 101 rfl rfl (by simp) _ rfl fun listed a u D hI hr hn=>⟨a_m (t:=100) rfl (by kernel_rfl) (valRF.val hI hr hn 6 (by kernel_rfl) rfl rfl),a_H rfl (hI.out 7 (by kernel_rfl)) (by simp[go_sem])⟩
         ·exact valRF.pureStepG 102 rfl rfl (by simp) _ rfl fun listed a u D hI hr hn=>⟨a_m (t:=100) rfl (by kernel_rfl) (valRF.val hI hr hn 6 (by kernel_rfl) rfl rfl),a_f rfl (valRF.val hI hr hn 7 (by kernel_rfl) rfl rfl) (e_b (HC.out _ (OneR.below_drew hI.old)).2)⟩
         ·exact valRF.pureStepG 103 rfl rfl (by simp) _ rfl fun listed a u D hI hr hn=>⟨a_m (t:=100) rfl (by kernel_rfl) (valRF.val hI hr hn 6 (by kernel_rfl) rfl rfl),a_a (.inl rfl) (hI.out 16 (by kernel_rfl))⟩
         ·exact valRF.pureStepG 104 rfl rfl (by simp) _ rfl fun listed a u D hI hr hn=>⟨a_m (t:=100) rfl (by kernel_rfl) (valRF.val hI hr hn 6 (by kernel_rfl) rfl rfl),n_X rfl (valRF.val hI hr hn 9 (by kernel_rfl) rfl rfl) (by omega)⟩
         ·exact valRF.pureStepG 105 rfl rfl (by simp) _ rfl fun listed a u D hI hr hn=>⟨a_m (t:=100) rfl (by kernel_rfl) (valRF.val hI hr hn 6 (by kernel_rfl) rfl rfl),d_L (l:=k+1) (h:=xn) rfl (valRF.val hI hr hn 8 (by kernel_rfl) rfl rfl) (.inr ⟨_,rfl,(valRF.val hI hr hn 10 (by kernel_rfl) rfl rfl)⟩) (.inl ⟨rfl,rfl⟩) (by omega) (Nat.le_refl _) hxc⟩
         ·exact valRF.pureStepG 106 rfl rfl (by simp) _ rfl fun listed a u D hI hr hn=>⟨a_m (t:=100) rfl (by kernel_rfl) (valRF.val hI hr hn 6 (by kernel_rfl) rfl rfl),a_H rfl (hI.out 17 (by kernel_rfl)) (by simp[go_sem])⟩
         ·exact valRF.pureStepG 107 rfl rfl (by simp) _ rfl fun listed a u D hI hr hn=>⟨a_m (t:=100) rfl (by kernel_rfl) (valRF.val hI hr hn 6 (by kernel_rfl) rfl rfl),a_f rfl (valRF.val hI hr hn 12 (by kernel_rfl) rfl rfl) (c_y (HC.out _ (OneR.below_drew hI.old)).1.1)⟩
         ·exact valRF.callStepG 108 rfl rfl (by simp) _ rfl fun listed a u D hI hr hn=>⟨a_m (t:=100) rfl (by kernel_rfl) (valRF.val hI hr hn 6 (by kernel_rfl) rfl rfl),_,_,c_m rfl (valRF.val hI hr hn 13 (by kernel_rfl) rfl rfl) (by simp[go_sem]),HDL.out _⟩
         ·exact valRF.callStepG 109 rfl rfl (by simp) _ rfl fun listed a u D hI hr hn=>⟨a_m (t:=100) rfl (by kernel_rfl) (valRF.val hI hr hn 6 (by kernel_rfl) rfl rfl),_,_,b_5 rfl (valRF.val hI hr hn 11 (by kernel_rfl) rfl rfl) (valRF.val hI hr hn 14 (by kernel_rfl) rfl rfl) (by simp[go_sem]),HCN.out _ (OneR.below_drew hI.old)⟩
         ·exact valRF.pureStepG 110 rfl rfl (by simp) _ rfl fun listed a u D hI hr hn=>⟨a_m (t:=100) rfl (by kernel_rfl) (valRF.val hI hr hn 6 (by kernel_rfl) rfl rfl),f_u rfl (valRF.val hI hr hn 15 (by kernel_rfl) rfl rfl)⟩
         ·exact valRF.pureStep rfl 111 rfl rfl (by simp) _ rfl fun listed a u D hI hr hn=>h_4 rfl (valRF.val hI hr hn 6 (by kernel_rfl) rfl rfl) (valRF.val hI hr hn 16 (by kernel_rfl) rfl rfl) (Bool.true_and _)
        ·intro listed a u D hI hall
         have eR0:a.tmps.getD 111 undef=.bool (!t3):=(hI.fact 17 ⟨hall 17 (by simp),fun k hk=>by cases hk⟩).1;have hold:=OneR.below_drew hI.old;have hl:=hI.fill [94,95,96,97,98,99,100,101,102,103,104,105,106,107,108,109,110,111] (by kernel_rfl);clear hI hall;obtain⟨σ,hσ⟩:∃σ:Nat→Value,∀t,a.tmps.getD t undef=σ t:=⟨_,fun _=>rfl⟩;simp only[hσ]at hl eR0;clear hσ;simp only[List.foldl_cons,List.foldl_nil,List.setIfInBounds_toArray,List.set_cons_zero,List.set_cons_succ,eR0]at hl;subst hl;go_wp2_with fail
         go_meet
         exact⟨!t3,rfl,HY,hold⟩
     case rest=>
     obtain⟨t,rfl,HY,hb5⟩:=hcut;obtain⟨w5,rfl⟩:∃u,u=wc:=⟨_,rfl⟩;have HS5:=Lib.hid (HS4.out.next hb5.out);have HZ5:=Lib.hid (HZ4.out.next hb5.out);have HK5:=Lib.hid (HK4.out.below hb5.out HK4.out.lt);have HLL:Hid (l.length≤100000):=by show _≤_;have:=HLN.out;omega
     clear hb5 HS4 HZ4 HK4 HFS HT3;obtain⟨c0,c1⟩:w5.cell? ⟨gs,0,none⟩=some (.int .i64 s.ord)∧w5.cell? ⟨gs,1,none⟩=some (.bool s.drop):=⟨HK5.out.cell rfl,HK5.out.cell rfl⟩;cases t with
     |true=>
      have HN:Hid (R=(l++[⟨d.id,s.ord,18⟩])++b_9 d os (rt.stops.drop (k+1))):=n_4 HG2.out (if_pos (HY.out.1 rfl));go_wp2_with fail
      refine(e_i w g (some ⟨bm,0,none⟩) d st l v s.ord 18 _ (by exact HS5.out) HLL.out).mono ?_;rintro e w6 ⟨rfl,⟨v6,hs6⟩,hz6⟩;rw[c_S _ _ _ (by decide)]at hs6;have HS6:=Lib.hid hs6;have HZ6:=Lib.hid (HZ5.out.trans hz6);clear hs6 hz6 HS5 HZ5 HK5 c0 c1;go_wp2_with fail
      go_roundw
      case rel=>exact⟨k+1,l++[⟨d.id,s.ord,18⟩],v6,by omega,by go_num,HS6,HZ6,HN,Lib.hid (by have:=HLN.out;simp only[List.length_append,List.length_cons,List.length_nil];omega)⟩
      case measure=>simp[intOf];omega
     |false=>
      have HN:Hid (R=l++b_9 d os (rt.stops.drop (k+1))):=by
       show _=_;have h1:=n_4 HG2.out (if_neg (fun h=>(by have:=HY.out.2 h;cases this)));rw[List.append_nil]at h1;exact h1
      go_wp2_with fail
      go_roundw
      case rel=>exact⟨k+1,l,v,by omega,by go_num,HS5,HZ5,HN,Lib.hid (by have:=HLN.out;omega)⟩
      case measure=>simp[intOf];omega
   obtain⟨b3,off3,s,hA3,hbb3,hs,hdr3,c0,c1⟩:=Stps.at_ (Recs.keep HST.out HS.out.old) hlt;have HG1:=HG.out;rw[hdr3]at HG1;have HG2:=Lib.hid HG1;have HSK:=Lib.hid hs
   have HXS:Hid (rt.stops.take k++[s]=rt.stops.take (k+1)):=by
    show _=_;rw[List.take_add_one,hs];rfl
   obtain⟨lf1,lf2⟩:=HB.out.left;have ll1:-1000000≤st.load:=by have:=HB.out.load;omega
   have ll2:st.load≤1000000:=by have:=HB.out.load;omega
   have lf3:st.left≤1000000000:=by omega
   have hz1:Below wr.heap.size wr (wr.alloc (.cells #[.int .i64 s.ord,.bool s.drop] 48)):=(Below.refl _ _).alloc (Nat.le_refl _) _;have HS2:Hid (TS w g (some ⟨bm,0,none⟩) d st l v (wr.alloc (.cells #[.int .i64 s.ord,.bool s.drop] 48))):=HS.out.next hz1;have HZ2:Hid (Stay W0 (wr.alloc (.cells #[.int .i64 s.ord,.bool s.drop] 48))):=HZ.out.next hz1;have HK2:Hid (Blk (wr.alloc (.cells #[.int .i64 s.ord,.bool s.drop] 48)) wr.heap.size 48 [.int .i64 s.ord,.bool s.drop]):=Blk.new wr _ _;obtain⟨of,hof⟩:∃z,find os s.ord=z:=⟨_,rfl⟩;have HOF:=Lib.hid hof;clear hs hdr3 HG1 HG lf2 hz1 HS HZ hof;subst hA3;go_upto_region 8 with fail
   obtain⟨gs,hgs⟩:∃g,wr.heap.size=g:=⟨_,rfl⟩;obtain⟨w2,hw2⟩:∃u,wr.alloc (.cells #[.int .i64 s.ord,.bool s.drop] 48)=u:=⟨_,rfl⟩;rw[hgs]at HK2;rw[hw2]at HS2 HZ2 HK2
   (try rw[hgs])
   (try rw[hw2])
   clear hgs hw2 c0 c1;obtain⟨c0,c1⟩:w2.cell? ⟨gs,0,none⟩=some (.int .i64 s.ord)∧w2.cell? ⟨gs,1,none⟩=some (.bool s.drop):=⟨HK2.out.cell rfl,HK2.out.cell rfl⟩;go_wp2_with fail
   refine(g_3 A2 n2 c2 os s.ord of _ (by exact Recs.more (Recs.keep HO.out HS2.out.old) HS2.out.old.size) HOF.out).mono ?_;rintro e w3 ⟨rfl,hb3⟩;have HS3:=Lib.hid (HS2.out.next hb3);have HZ3:=Lib.hid (HZ2.out.next hb3);have HK3:=Lib.hid (HK2.out.below hb3 HK2.out.lt);clear hb3 HS2 HZ2 HK2 c0 c1;cases of with
   |none=>
    have hv:j_5 none=.tuple #[.agg #[.int .i64 0,.int .i64 0,.int .i64 0,.int .i64 0,.int .i64 0,.int .i64 0,.int .i64 0,.int .i64 0,.int .i64 0,.int .i64 0],.bool false]:=rfl;rw[hv];clear hv;have hz4:Below w3.heap.size w3 (w3.alloc (.cells #[.int .i64 0,.int .i64 0,.int .i64 0,.int .i64 0,.int .i64 0,.int .i64 0,.int .i64 0,.int .i64 0,.int .i64 0,.int .i64 0] 31)):=(Below.refl _ _).alloc (Nat.le_refl _) _;have HS4:=Lib.hid (HS3.out.next hz4);have HZ4:=Lib.hid (HZ3.out.next hz4);have HK4:=Lib.hid (HK3.out.below hz4 HK3.out.lt);obtain⟨c0,c1⟩:(w3.alloc (.cells #[.int .i64 0,.int .i64 0,.int .i64 0,.int .i64 0,.int .i64 0,.int .i64 0,.int .i64 0,.int .i64 0,.int .i64 0,.int .i64 0] 31)).cell? ⟨gs,0,none⟩=some (.int .i64 s.ord)∧(w3.alloc (.cells #[.int .i64 0,.int .i64 0,.int .i64 0,.int .i64 0,.int .i64 0,.int .i64 0,.int .i64 0,.int .i64 0,.int .i64 0,.int .i64 0] 31)).cell? ⟨gs,1,none⟩=some (.bool s.drop):=⟨HK4.out.cell rfl,HK4.out.cell rfl⟩
    have HN:Hid (X=(l++[⟨d.id,s.ord,8⟩])++a_1 ⟨mn,ml⟩ d os (rt.stops.take (k+1)) st (rt.stops.drop (k+1))):=by
     show _=_;have h1:=s_i HG2.out HOF.out;rw[HXS.out]at h1;exact h1
    have HLL:Hid (l.length≤100000):=by show _≤_;have:=HLN.out;omega
    clear hz4 HS3 HZ3 HK3;go_wp2_with fail
    refine(e_i w g (some ⟨bm,0,none⟩) d st l v s.ord 8 _ (by exact HS4.out) HLL.out).mono ?_;rintro e w5 ⟨rfl,⟨v5,hs5⟩,hz5⟩;rw[c_S _ _ _ (by decide)]at hs5;have HS5:=Lib.hid hs5;have HZ5:=Lib.hid (HZ4.out.trans hz5);clear hs5 hz5 HS4 HZ4 HK4 c0 c1;go_wp2_with fail
    go_roundw
    case rel=>exact⟨k+1,st,l++[⟨d.id,s.ord,8⟩],v5,by omega,by go_num,HS5,HZ5,HN,Lib.hid HB.out.skip,Lib.hid (by have:=HLN.out;simp only[List.length_append,List.length_cons,List.length_nil];omega)⟩
    case measure=>simp[intOf];omega
   |some o=>
    have hv:j_5 (some o)=.tuple #[.agg #[.int .i64 o.id,.int .i64 o.size,.int .i64 o.pick.place,.int .i64 o.pick.win.fr,.int .i64 o.pick.win.to,.int .i64 o.pick.serv,.int .i64 o.drop.place,.int .i64 o.drop.win.fr,.int .i64 o.drop.win.to,.int .i64 o.drop.serv],.bool true]:=rfl;rw[hv];clear hv;obtain⟨hoi,hid⟩:=s_m HOF.out;have HKO:=Lib.hid (HOK.out o hoi);have HID:=Lib.hid hid;obtain⟨sz1,sz2⟩:=HKO.out.size;have sz3:o.size≤1000000:=by omega
    have hz4:Below w3.heap.size w3 (w3.alloc (.cells #[.int .i64 o.id,.int .i64 o.size,.int .i64 o.pick.place,.int .i64 o.pick.win.fr,.int .i64 o.pick.win.to,.int .i64 o.pick.serv,.int .i64 o.drop.place,.int .i64 o.drop.win.fr,.int .i64 o.drop.win.to,.int .i64 o.drop.serv] 31)):=(Below.refl _ _).alloc (Nat.le_refl _) _;have HS4:=Lib.hid (HS3.out.next hz4);have HZ4:=Lib.hid (HZ3.out.next hz4);have HK4:=Lib.hid (HK3.out.below hz4 HK3.out.lt);have HX4:Hid (OBox (w3.alloc (.cells #[.int .i64 o.id,.int .i64 o.size,.int .i64 o.pick.place,.int .i64 o.pick.win.fr,.int .i64 o.pick.win.to,.int .i64 o.pick.serv,.int .i64 o.drop.place,.int .i64 o.drop.win.fr,.int .i64 o.drop.win.to,.int .i64 o.drop.serv] 31)) w3.heap.size o):=Blk.new w3 _ _;obtain⟨ld,hld⟩:∃z,(if b_v (rt.stops.take k) s then st.load else a_k o s st.load)=z:=⟨_,rfl⟩;obtain⟨ht,hht⟩:∃z,e_h d o (rt.stops.take k) st s=z:=⟨_,rfl⟩;obtain⟨ce,hce⟩:∃z,f_L d o (rt.stops.take k) st s=z:=⟨_,rfl⟩;have HTE:Hid (h_M l d s.ord ce=l++ht):=by show _=_;rw[← hce,←hht];exact m_k
    have HLD:=Lib.hid hld;have HHT:=Lib.hid hht;have HCE:=Lib.hid hce;have hk0:(0:Int)≤(k:Int):=by omega
    have hk1:(k:Int)≤(xn:Int):=by omega
    have hk2:(k:Int)≤(xc:Int):=by omega
    clear hz4 HS3 HZ3 HK3 hld hht hce hoi hid;go_upto_region 11 with fail
    obtain⟨go,hgo⟩:∃g,w3.heap.size=g:=⟨_,rfl⟩;obtain⟨w4,hw4⟩:∃u,w3.alloc (.cells #[.int .i64 o.id,.int .i64 o.size,.int .i64 o.pick.place,.int .i64 o.pick.win.fr,.int .i64 o.pick.win.to,.int .i64 o.pick.serv,.int .i64 o.drop.place,.int .i64 o.drop.win.fr,.int .i64 o.drop.win.to,.int .i64 o.drop.serv] 31)=u:=⟨_,rfl⟩;rw[hgo]at HX4;rw[hw4]at HS4 HZ4 HK4 HX4
    (try rw[hgo])
    (try rw[hw4])
    clear hgo hw4;go_cut [] (fun wx=>(∃ v',Hid (TS w g (some ⟨bm,0,none⟩) d ⟨st.at_,st.left,ld⟩ (l++ht) v' wx))∧Hid (Stay w4 wx))
    case first=>
     have HC:Hid (∀ u,Stay w4 u→(u.cell? ⟨go,0,none⟩=some (.int .i64 o.id)∧u.cell? ⟨go,1,none⟩=some (.int .i64 o.size)∧u.cell? ⟨go,2,none⟩=some (.int .i64 o.pick.place)∧u.cell? ⟨go,3,none⟩=some (.int .i64 o.pick.win.fr)∧u.cell? ⟨go,4,none⟩=some (.int .i64 o.pick.win.to)∧u.cell? ⟨go,5,none⟩=some (.int .i64 o.pick.serv)∧u.cell? ⟨go,6,none⟩=some (.int .i64 o.drop.place)∧u.cell? ⟨go,7,none⟩=some (.int .i64 o.drop.win.fr)∧u.cell? ⟨go,8,none⟩=some (.int .i64 o.drop.win.to)∧u.cell? ⟨go,9,none⟩=some (.int .i64 o.drop.serv))∧(u.cell? ⟨gs,0,none⟩=some (.int .i64 s.ord)∧u.cell? ⟨gs,1,none⟩=some (.bool s.drop))∧u.cell? ⟨w.heap.size,2,none⟩=some (.slice (some ⟨b3,off3,none⟩) xn xc)):=fun u hu=>by
      have h1:=OBox.cells (o:=o) (hu.2 _ _ _ (by decide) (by decide) HX4.out);have h2:=hu.2 _ _ _ (by decide) (by decide) HK4.out;have h3:=RBox.cells (x:=⟨rt,(some ⟨b3,off3,none⟩),xn,xc⟩) ((HZ4.out.trans hu).2 _ _ _ (by decide) (by decide) HX3.out);exact⟨h1,⟨h2.cell rfl,h2.cell rfl⟩,h3.2.2⟩
     have HCA:Hid (∀ u,Stay w4 u→TS w g (some ⟨bm,0,none⟩) d st l v u→Calls Tryz.prog 131 #[.pointer (some ⟨g,0,none⟩),ordV o,stpV s,.slice (some ⟨b3,off3,none⟩) k xc] u fun e u'=>e=.returned (.int .i64 ce)∧TS w g (some ⟨bm,0,none⟩) d ⟨st.at_,st.left,ld⟩ l v u'∧Stay w4 u'):=fun u hu hq=>by
      refine(m_m w g (some ⟨bm,0,none⟩) d st l v o s (some ⟨b3,off3,none⟩) k xc (rt.stops.take k) ce ld u hq (c_W (Recs.more (Recs.keep HST.out hq.old) hq.old.size) (by omega)) sz1 sz3 ll1 ll2 HID.out HCE.out HLD.out).mono ?_;rintro e u' ⟨h1,h2,h3⟩;exact⟨h1,h2,hu.trans h3⟩
     have HTL:Hid (∀ u,Stay w4 u→TS w g (some ⟨bm,0,none⟩) d ⟨st.at_,st.left,ld⟩ l v u→Calls Tryz.prog 130 #[.pointer (some ⟨g,0,none⟩),.int .i64 o.id,.int .i64 ce] u fun e u'=>e=.returned (.tuple #[])∧(∃ v',Hid (TS w g (some ⟨bm,0,none⟩) d ⟨st.at_,st.left,ld⟩ (l++ht) v' u'))∧Stay w4 u'):=fun u hu hq=>by
      refine(e_i w g (some ⟨bm,0,none⟩) d ⟨st.at_,st.left,ld⟩ l v o.id ce u hq (by have:=HLN.out;omega)).mono ?_;rintro e u' ⟨h1,⟨v',h2⟩,h3⟩;rw[HID.out,HTE.out]at h2;exact⟨h1,⟨v',h2⟩,hu.trans h3⟩
     go_region_held3 (fun u=>(u.cell? ⟨go,0,none⟩=some (.int .i64 o.id)∧u.cell? ⟨go,1,none⟩=some (.int .i64 o.size)∧u.cell? ⟨go,2,none⟩=some (.int .i64 o.pick.place)∧u.cell? ⟨go,3,none⟩=some (.int .i64 o.pick.win.fr)∧u.cell? ⟨go,4,none⟩=some (.int .i64 o.pick.win.to)∧u.cell? ⟨go,5,none⟩=some (.int .i64 o.pick.serv)∧u.cell? ⟨go,6,none⟩=some (.int .i64 o.drop.place)∧u.cell? ⟨go,7,none⟩=some (.int .i64 o.drop.win.fr)∧u.cell? ⟨go,8,none⟩=some (.int .i64 o.drop.win.to)∧u.cell? ⟨go,9,none⟩=some (.int .i64 o.drop.serv))∧(u.cell? ⟨gs,0,none⟩=some (.int .i64 s.ord)∧u.cell? ⟨gs,1,none⟩=some (.bool s.drop))∧u.cell? ⟨w.heap.size,2,none⟩=some (.slice (some ⟨b3,off3,none⟩) xn xc))
      (first
        |exact HC.out _ (Stay.refl _).drew
        |exact HC.out _ (by with_reducible assumption)
        |exact HC.out _ (Stay.drew (by with_reducible assumption)))
      (first
        |(go_at_call 131;(refine(HCA.out _ (by first|with_reducible assumption|exact(Stay.refl _).drew) (by first|with_reducible assumption|exact HS4.out.drew)).mono ?_);rintro e w' ⟨rfl,HT5,HZ5⟩)
        |(go_at_call 130;(refine(HTL.out _ (by with_reducible assumption) (by with_reducible assumption)).mono ?_);rintro e w' ⟨rfl,HT6,HZ6⟩))
     all_goals
      go_wp2_with fail
      go_meet
      exact⟨HT6,Lib.hid HZ6⟩
    case rest=>
    obtain⟨⟨v5,HS5⟩,hz5⟩:=hcut;obtain⟨w5,rfl⟩:∃u,u=wc:=⟨_,rfl⟩;have HZ5:=Lib.hid (HZ4.out.trans hz5.out);have HK5:=Lib.hid (hz5.out.2 _ _ _ (by decide) (by decide) HK4.out);have HX5:Hid (OBox w5 go o):=hz5.out.2 _ _ _ (by decide) (by decide) HX4.out;obtain⟨si,hsi⟩:∃z,a_e o s=z:=⟨_,rfl⟩;have HSI:=Lib.hid hsi;have hsv:0≤si.serv∧si.serv≤1000000:=by rw[← hsi];exact f_O HKO.out s
    have hwn:=right_iff.1 (h_I HKO.out s);rw[hsi]at hwn;obtain⟨wn1,wn2,wn3⟩:=hwn;have wn4:si.win.fr≤1000000:=by omega
    obtain⟨sv1,sv2⟩:=hsv;obtain⟨tt,htt⟩:∃t,time ⟨mn,ml⟩ st.at_ si.place=t:=⟨_,rfl⟩;have HTT:=Lib.hid htt;obtain⟨hma,hmn,hmap⟩:=f_Y (HM.out);obtain⟨tb1,tb2⟩:=b_1 hmap st.at_ si.place;rw[htt]at tb1 tb2;have HMA:=Lib.hid hma;obtain⟨bg,hbg⟩:∃z,b_u ⟨mn,ml⟩ o st s=z:=⟨_,rfl⟩;have HBG:=Lib.hid hbg
    have hbv:(if st.left+tt<si.win.fr then si.win.fr else st.left+tt)=bg:=by
     rw[← hbg];unfold b_u;rw[hsi,htt]
    have HBV:=Lib.hid hbv;obtain⟨se,hse⟩:∃z,f_M d si bg=z:=⟨_,rfl⟩;have HSE:=Lib.hid hse;obtain⟨lt,hlat⟩:∃z,f_H ⟨mn,ml⟩ d o st s=z:=⟨_,rfl⟩;have HLAT:=Lib.hid hlat
    have HTE2:Hid (h_M (l++ht) d s.ord se=(l++ht)++lt):=by
     show _=_;rw[← hse,←hlat,←hsi,←hbg];exact m_l
    have HLH:Hid ((l++ht).length≤100000):=by
     show _≤_;have h1:=h_K d o (rt.stops.take k) st s;rw[HHT.out]at h1;have:=HLN.out;rw[List.length_append];omega
    have HN:Hid (X=((l++ht)++lt)++a_1 ⟨mn,ml⟩ d os (rt.stops.take (k+1)) ⟨si.place,bg+si.serv,ld⟩ (rt.stops.drop (k+1))):=by
     show _=_;have h1:=s_j HG2.out HOF.out HHT.out HLAT.out;unfold e_K at h1;rw[HXS.out,HSI.out,HBG.out,HLD.out]at h1;exact h1
    have HB2:Hid (OA ⟨si.place,bg+si.serv,ld⟩ (k+1)):=by
     have h1:=HB.out.next (seen:=rt.stops.take k) HKO.out (s:=s) (by rw[HSI.out,HTT.out];exact⟨tb1,tb2⟩);unfold e_K at h1;rw[HSI.out,HBG.out,HLD.out]at h1;exact h1
    have HLN2:Hid (((l++ht)++lt).length≤2*(k+1)):=by
     show _≤_;have h1:=h_K d o (rt.stops.take k) st s;have h2:=l_x ⟨mn,ml⟩ d o st s;rw[HHT.out]at h1;rw[HLAT.out]at h2;have:=HLN.out;simp only[List.length_append];omega
    clear hz5 HS4 HZ4 HK4 HX4 hsi htt hbg hbv hse hlat hma hmap;go_upto_region 12 with fail
    have HC:Hid (∀ u,Stay w5 u→(u.cell? ⟨go,0,none⟩=some (.int .i64 o.id)∧u.cell? ⟨go,1,none⟩=some (.int .i64 o.size)∧u.cell? ⟨go,2,none⟩=some (.int .i64 o.pick.place)∧u.cell? ⟨go,3,none⟩=some (.int .i64 o.pick.win.fr)∧u.cell? ⟨go,4,none⟩=some (.int .i64 o.pick.win.to)∧u.cell? ⟨go,5,none⟩=some (.int .i64 o.pick.serv)∧u.cell? ⟨go,6,none⟩=some (.int .i64 o.drop.place)∧u.cell? ⟨go,7,none⟩=some (.int .i64 o.drop.win.fr)∧u.cell? ⟨go,8,none⟩=some (.int .i64 o.drop.win.to)∧u.cell? ⟨go,9,none⟩=some (.int .i64 o.drop.serv))∧(u.cell? ⟨gs,0,none⟩=some (.int .i64 s.ord)∧u.cell? ⟨gs,1,none⟩=some (.bool s.drop))):=fun u hu=>by
     have h1:=OBox.cells (o:=o) (hu.2 _ _ _ (by decide) (by decide) HX5.out);have h2:=hu.2 _ _ _ (by decide) (by decide) HK5.out;exact⟨h1,⟨h2.cell rfl,h2.cell rfl⟩⟩
    have HSV:Hid (∀ u,Stay w5 u→TS w g (some ⟨bm,0,none⟩) d ⟨st.at_,st.left,ld⟩ (l++ht) v5 u→Calls Tryz.prog 133 #[ordV o,stpV s] u fun e u'=>e=.returned (h_7 si)∧TS w g (some ⟨bm,0,none⟩) d ⟨st.at_,st.left,ld⟩ (l++ht) v5 u'∧Stay w5 u'):=fun u hu hq=>by
     refine(n_Y o s si u HSI.out).mono ?_;rintro e u' ⟨h1,h2⟩;exact⟨h1,hq.next h2,hu.next h2⟩
    have HSR:Hid (∀ u,Stay w5 u→TS w g (some ⟨bm,0,none⟩) d ⟨st.at_,st.left,ld⟩ (l++ht) v5 u→Calls Tryz.prog 132 #[.pointer (some ⟨g,0,none⟩),h_7 si] u fun e u'=>e=.returned (.int .i64 se)∧TS w g (some ⟨bm,0,none⟩) d ⟨si.place,bg+si.serv,ld⟩ (l++ht) v5 u'∧Stay w5 u'):=fun u hu hq=>by
     refine(m_n base bm mn ml w g d ⟨st.at_,st.left,ld⟩ (l++ht) v5 si tt bg se u hq (f_Y (HM.out.keep hq.old)).1 hmn HTT.out tb1 tb2 lf1 lf3 sv1 sv2 wn1 wn4 HBV.out HSE.out).mono ?_;rintro e u' ⟨h1,h2,h3⟩;exact⟨h1,h2,hu.trans h3⟩
    have HTL:Hid (∀ u,Stay w5 u→TS w g (some ⟨bm,0,none⟩) d ⟨si.place,bg+si.serv,ld⟩ (l++ht) v5 u→Calls Tryz.prog 130 #[.pointer (some ⟨g,0,none⟩),.int .i64 o.id,.int .i64 se] u fun e u'=>e=.returned (.tuple #[])∧(∃ v',Hid (TS w g (some ⟨bm,0,none⟩) d ⟨si.place,bg+si.serv,ld⟩ ((l++ht)++lt) v' u'))∧Stay w5 u'):=fun u hu hq=>by
     refine(e_i w g (some ⟨bm,0,none⟩) d ⟨si.place,bg+si.serv,ld⟩ (l++ht) v5 o.id se u hq HLH.out).mono ?_;rintro e u' ⟨h1,⟨v',h2⟩,h3⟩;rw[HID.out,HTE2.out]at h2;exact⟨h1,⟨v',h2⟩,hu.trans h3⟩
    go_region_held3 (fun u=>(u.cell? ⟨go,0,none⟩=some (.int .i64 o.id)∧u.cell? ⟨go,1,none⟩=some (.int .i64 o.size)∧u.cell? ⟨go,2,none⟩=some (.int .i64 o.pick.place)∧u.cell? ⟨go,3,none⟩=some (.int .i64 o.pick.win.fr)∧u.cell? ⟨go,4,none⟩=some (.int .i64 o.pick.win.to)∧u.cell? ⟨go,5,none⟩=some (.int .i64 o.pick.serv)∧u.cell? ⟨go,6,none⟩=some (.int .i64 o.drop.place)∧u.cell? ⟨go,7,none⟩=some (.int .i64 o.drop.win.fr)∧u.cell? ⟨go,8,none⟩=some (.int .i64 o.drop.win.to)∧u.cell? ⟨go,9,none⟩=some (.int .i64 o.drop.serv))∧(u.cell? ⟨gs,0,none⟩=some (.int .i64 s.ord)∧u.cell? ⟨gs,1,none⟩=some (.bool s.drop)))
     (first
       |exact HC.out _ (Stay.refl _).drew
       |exact HC.out _ (by with_reducible assumption)
       |exact HC.out _ (Stay.drew (by with_reducible assumption)))
     (first
       |(go_at_call 133;(refine(HSV.out _ (by first|with_reducible assumption|exact(Stay.refl _).drew) (by first|with_reducible assumption|exact HS5.out.drew)).mono ?_);rintro e w' ⟨rfl,HT6,HZ6⟩)
       |(go_at_call 132;(refine(HSR.out _ (by with_reducible assumption) (by with_reducible assumption)).mono ?_);rintro e w' ⟨rfl,HT7,HZ7⟩)
       |(go_at_call 130;(refine(HTL.out _ (by with_reducible assumption) (by with_reducible assumption)).mono ?_);rintro e w' ⟨rfl,HT8,HZ8⟩))
    all_goals
     go_wp2_with fail
     go_roundw
     case rel=>obtain⟨v8,hs8⟩:=HT8;exact⟨k+1,⟨si.place,bg+si.serv,ld⟩,(l++ht)++lt,v8,by omega,by go_num,hs8,Lib.hid (HZ5.out.trans HZ8),HN,HB2,HLN2⟩
     case measure=>simp[intOf];omega
end Audit
namespace Audit
theorem TL.more{X u u':World}{v v':Value}{l t:List Trb}(h:TL X v l u)(ho:OwnK u' X.heap.size 130 3 v' (l.length+t.length) (d_Z l++d_Z t))(hg:u.grownBy u' v.ownBlock):TL X v' (l++t) u':=
 ⟨h.own.below h.below hg h.below.size (Nat.le_refl _),by rw[e_5,List.length_append];exact ho⟩
theorem n_6{m:Option Mp}{ds:List Drv}{os:List FleetMath.Ord}{p:List Rte}:((d_l m ds os p []).2==1)=!b_y m ds os p:=by
 cases h:b_y m ds os p with
 |false=>rw[i_C h];rfl
 |true=>
  obtain⟨mm,rfl,_⟩:=a_K h;cases p with
  |nil=>rw[i_D h rfl];rfl
  |cons x r=>rw[h_d h (by simp)];rfl
theorem j_4(A2:Option Addr)(n2 c2:Nat)(os:List FleetMath.Ord)(A3:Option Addr)(n3 c3:Nat)(l:List RM)(w:World)(hn2:n2≤64)(ho:Ords w w.heap.size A2 n2 os)(hl:Plns w w.heap.size A3 n3 l):
 Calls Tryz.prog 73 #[.slice A2 n2 c2,.slice A3 n3 c3] w (c_X w 130 3 (c_Q (l.map (·.rt)) os).length (d_Z (c_Q (l.map (·.rt)) os))):=by
 have hm2:=Recs.le ho;have HO:=Lib.hid ho;have HP:=Lib.hid hl;have HL2:=Lib.hid ho.length;obtain⟨Y,hY⟩:∃Y,c_Q (l.map (·.rt)) os=Y:=⟨_,rfl⟩;have HG0:Hid (Y=[]++c_Q (l.map (·.rt)) (os.drop 0)):=by show _=_;rw[← hY,List.nil_append,List.drop_zero]
 rw[hY];have HS0:Hid (TL w (.slice none 0 0) [] w):=TL.start w;clear ho hl hY;go_enter Tryz.func73,Tryz.ntmps73;go_wp2_with fail
 go_loopw [5,12] (fun v i wr=>∃(k:Nat) (l':List Trb),k≤n2∧i=.int .i64 k∧Hid (TL w v l' wr)∧Hid (Y=l'++c_Q (l.map (·.rt)) (os.drop k))∧Hid (l'.length≤k)) (fun _ i _=>n2-(intOf i).toNat)
 case atStart=>exact⟨0,[],Nat.zero_le _,rfl,HS0,HG0,Lib.hid (by simp)⟩
 case round=>
  clear HS0 HG0;obtain⟨k,l',hk,rfl,HS,HG,HLN⟩:=hrel;by_cases hlt:k<n2
  case neg=>
   have HE:Hid (Y=l'):=by
    show _=_;have h1:=HG.out;rw[List.drop_of_length_le (by rw[HL2.out];omega)]at h1;rw[h1];simp[c_Q]
   clear HG;go_wp2_with fail
   go_ret;rw[HE.out];exact⟨_,rfl,HS.out.below,HS.out.own⟩
  obtain⟨b,off,o,rfl,_,ho,hdr,c0,c1,c2',c3',c4,c5,c6,c7,c8,c9⟩:=Ords.at_ (Recs.keep HO.out HS.out.below) hlt;have HG1:=HG.out;rw[hdr]at HG1;have HN:=Lib.hid (s_l HG1);obtain⟨fs,hfs⟩:∃s,b_b (l.map (·.rt)) o.id=s:=⟨_,rfl⟩;rw[hfs]at HN
  have HFP:Hid (∀ u,Below w.heap.size w u→Calls Tryz.prog 97 #[.slice A3 n3 c3,.int .i64 o.id] u (fun e w'=>e=.returned (d_T fs)∧Below u.heap.size u w')):=fun u hu=>by
   have h1:=d_N A3 n3 c3 l o.id u ((HP.out.keep hu).more hu.size);rw[hfs]at h1;exact h1
  have HS1:=Lib.hid (HS.out.alloc (.cells #[.int .i64 o.id,.int .i64 o.size,.int .i64 o.pick.place,.int .i64 o.pick.win.fr,.int .i64 o.pick.win.to,.int .i64 o.pick.serv,.int .i64 o.drop.place,.int .i64 o.drop.win.fr,.int .i64 o.drop.win.to,.int .i64 o.drop.serv] 31));have HX1:Hid (OBox (wr.alloc (.cells #[.int .i64 o.id,.int .i64 o.size,.int .i64 o.pick.place,.int .i64 o.pick.win.fr,.int .i64 o.pick.win.to,.int .i64 o.pick.serv,.int .i64 o.drop.place,.int .i64 o.drop.win.fr,.int .i64 o.drop.win.to,.int .i64 o.drop.serv] 31)) wr.heap.size o):=Blk.new wr _ _;clear ho hdr hfs HG1 HG;go_wp2_with fail
  refine(HFP.out _ (by exact HS1.out.below)).mono ?_;rintro e w2 ⟨rfl,hb2⟩;have HS2:=Lib.hid (HS1.out.next hb2);have HX2:=Lib.hid (OBox.below (o:=o) HX1.out hb2);clear hb2 HFP HS HS1 HX1 c0 c1 c2' c3' c4 c5 c6 c7 c8 c9;cases fs with
  |none=>
   have hv:d_T none=.tuple #[.agg #[.int .i64 0,.int .i64 0,.int .i64 0,.int .i64 0],.bool false]:=rfl;rw[hv];clear hv;have HN1:=Lib.hid (HN.out.2 rfl);have HS3:=Lib.hid (HS2.out.alloc (.cells #[.int .i64 0,.int .i64 0,.int .i64 0,.int .i64 0] 150));have HX3:Hid (OBox (w2.alloc (.cells #[.int .i64 0,.int .i64 0,.int .i64 0,.int .i64 0] 150)) wr.heap.size o):=OBox.below (o:=o) HX2.out ((Below.refl _ _).alloc (Nat.le_refl _) _);obtain⟨c0,_⟩:=OBox.cells (o:=o) HX3.out;have HA:=Lib.hid (HS3.out.alloc (.cells #[.int .i64 0,.int .i64 o.id,.int .i64 19] 130))
   have HAB:Hid (Blk ((w2.alloc (.cells #[.int .i64 0,.int .i64 0,.int .i64 0,.int .i64 0] 150)).alloc (.cells #[.int .i64 0,.int .i64 o.id,.int .i64 19] 130)) (w2.heap.size+1) 130 (d_i ⟨0,o.id,19⟩)):=by
    have h1:=Blk.new (w2.alloc (.cells #[.int .i64 0,.int .i64 0,.int .i64 0,.int .i64 0] 150)) 130 (d_i ⟨0,o.id,19⟩);rw[World.size_alloc]at h1;exact h1
   have HAL:Hid (l'.length≤100000):=by show _≤_;have:=HLN.out;omega
   clear HS2 HN HX2;go_wp2_with (at_builtin;refine l_9 (o:=⟨some 30,_,_,_,_,_⟩) rfl (.tmp 25) (.tmp 29) rfl HA.out rfl ⟨0,o.id,19⟩ HAB.out rfl HAL.out ?_;intro vB wB HQ HQK)
   go_roundw
   case rel=>exact⟨k+1,l'++[⟨0,o.id,19⟩],by omega,by go_num,HQ,HN1,Lib.hid (by have:=HLN.out;simp only[List.length_append,List.length_cons,List.length_nil];omega)⟩
   case measure=>simp[intOf];omega
  |some sp=>
   have hv:d_T (some sp)=.tuple #[.agg #[.int .i64 sp.drv,.int .i64 sp.pick,.int .i64 sp.drop,.int .i64 0],.bool true]:=rfl;rw[hv];clear hv;have HN1:=Lib.hid (HN.out.1 rfl);have HS3:=Lib.hid (HS2.out.alloc (.cells #[.int .i64 sp.drv,.int .i64 sp.pick,.int .i64 sp.drop,.int .i64 0] 150));clear HS2 HN HX2;go_wp2_with fail
   go_roundw
   case rel=>exact⟨k+1,l',by omega,by go_num,HS3,HN1,Lib.hid (by have:=HLN.out;omega)⟩
   case measure=>simp[intOf];omega
theorem h_b(base:Nat)(q:Option Addr)(m:Option Mp)(A:Option Addr)(n c:Nat)(ds:List Drv)(A2:Option Addr)(n2 c2:Nat)(os:List FleetMath.Ord)(A3:Option Addr)(n3 c3:Nat)(l:List RM)(w:World)(hnc:n≤c)(hnc2:n2≤c2)(hnc3:n3≤c3)
 (h:MapP w 92 base (.pointer q) m) (hd:Drvs w w.heap.size A n ds) (ho:Ords w w.heap.size A2 n2 os) (hl:Plns w w.heap.size A3 n3 l):
 Calls Tryz.prog 29 #[.pointer q,.slice A n c,.slice A2 n2 c2,.slice A3 n3 c3] w (c_X w 130 3 (c_a m ds os (l.map (·.rt))).length (d_Z (c_a m ds os (l.map (·.rt))))):=by
 have hm:=Recs.le hl.rows;have HD:=Lib.hid hd;have HO:=Lib.hid ho;have HP:=Lib.hid hl;have HL:=Lib.hid hl.length;have HL2:=Lib.hid ho.length;have HM:=Lib.hid h;obtain⟨rw',hrw⟩:∃r,b_y m ds os (l.map (·.rt))=r:=⟨_,rfl⟩;have HW:=Lib.hid hrw;obtain⟨Y,hY⟩:∃Y,c_a m ds os (l.map (·.rt))=Y:=⟨_,rfl⟩;have HY:=Lib.hid hY;rw[hY];obtain⟨f1,f2,hf⟩:∃f1 f2,d_l m ds os (l.map (·.rt)) []=(f1,f2):=⟨_,_,rfl⟩;have he:=n_6 (m:=m) (ds:=ds) (os:=os) (p:=l.map (·.rt));rw[hf,hrw]at he;simp only at he
 have HCK:Hid (Calls Tryz.prog 70 #[.pointer q,.slice A n c,.slice A2 n2 c2,.slice A3 n3 c3,.slice none 0 0] w (a_y w (faultV f1 f2))):=by
  have h1:=q_C base (.pointer q) m A n c ds A2 n2 c2 os A3 n3 c3 l none 0 0 [] w hnc hnc2 h hd ho hl ⟨⟨rfl,Nat.zero_le _,fun h=>absurd h (by decide)⟩,fun r hr=>by cases hr⟩;rw[show([]:List CM).map (·.vs)=[]from rfl,hf]at h1;exact h1
 clear h hd ho hl hrw hY hf;go_enter Tryz.func29,Tryz.ntmps29;go_wp2_with fail
 refine HCK.out.mono ?_;rintro e w0 ⟨rfl,hb0⟩;have HB0:=Lib.hid hb0;clear hb0 HCK;go_wp2_with fail
 refine(l_A f1 f2 _).mono ?_;rintro e w1 ⟨rfl,hb1⟩;have HB1:=Lib.hid (HB0.out.trans (hb1.mono HB0.out.size));clear hb1 HB0;cases rw' with
 |false=>
  have e1:(f2==1)=true:=he;have HF:Hid (Y=[⟨0,0,1⟩]):=HY.out.symm.trans (j_1 HW.out);clear he;go_wp2_with fail
  go_ret;rw[HF.out];exact⟨_,rfl,HB1.out.alloc HB1.out.size _,n_5 w1 ⟨0,0,1⟩ HB1.out.size⟩
 |true=>
  have e1:(f2==1)=false:=he;obtain⟨mm,hmm,_,hkn,hrp,hdk,_⟩:=a_K HW.out;subst hmm;have HKN:=Lib.hid hkn;have HRP:=Lib.hid hrp;have HDK:=Lib.hid hdk
  have hn8:n3≤8:=by
   have:=b_2 hrp;rw[List.length_map,HL.out]at this;exact this
  have hn2:n2≤64:=by have:=(known_iff.1 hkn).1;rw[HL2.out]at this;omega
  have HG0:Hid (Y=[]++((l.map (·.rt)).drop 0).flatMap (b_C mm ds os)++c_Q (l.map (·.rt)) os):=by
   show _=_;rw[← HY.out,j_2 HW.out,List.nil_append,List.drop_zero]
  have HS0:Hid (TL w (.slice none 0 0) [] w1):=(TL.start w).next HB1.out
  clear hkn hrp hdk HB1 he;go_wp2_with fail
  clear e1;go_loopw [9,23] (fun v i wr=>∃(k:Nat) (l':List Trb),k≤n3∧i=.int .i64 k∧Hid (TL w v l' wr)∧Hid (Y=l'++((l.map (·.rt)).drop k).flatMap (b_C mm ds os)++c_Q (l.map (·.rt)) os)∧Hid (l'.length≤241*k)) (fun _ i _=>n3-(intOf i).toNat)
  case atStart=>exact⟨0,[],Nat.zero_le _,rfl,HS0,HG0,Lib.hid (by simp)⟩
  case round=>
   clear HS0 HG0;obtain⟨k,l',hk,rfl,HS,HG,HLN⟩:=hrel;by_cases hlt:k<n3
   case neg=>
    obtain⟨ms,hms⟩:∃z,c_Q (l.map (·.rt)) os=z:=⟨_,rfl⟩
    have HE:Hid (Y=l'++ms):=by
     show _=_;have h1:=HG.out;rw[List.drop_of_length_le (by rw[List.length_map,HL.out];omega),hms]at h1;rw[h1];simp
    have hml:ms.length≤64:=by
     rw[← hms];have h1:(c_Q (l.map (·.rt)) os).length≤os.length:=List.length_filterMap_le _ _;have:=HL2.out;omega
    have hll:l'.length≤2000:=by have:=HLN.out;omega
    have HMS:=Lib.hid hms;clear HG hms;go_wp2_with fail
    refine(j_4 A2 n2 c2 os A3 n3 c3 l _ hn2 (by exact Recs.more (Recs.keep HO.out HS.out.below) HS.out.below.size) (by exact(HP.out.keep HS.out.below).more HS.out.below.size)).mono ?_;rintro e w5 ⟨v5,rfl,hb5,ho5⟩;rw[HMS.out]at ho5;obtain⟨A5,c5,rfl,_,hr5⟩:=ho5.read;have HS5:=Lib.hid (HS.out.next hb5);have HR5:=Lib.hid hr5;clear hb5 ho5 hr5 HS;go_wp2_with (at_builtin;refine a_T (o:=⟨some 39,_,_,_,_,_⟩) rfl (.tmp 35) (.tmp 38) Tryz.underlying78 h_G rfl (by decide) rfl (base:=w.heap.size) HS5.out.own rfl HR5.out rfl (i_x ms) (by unfold maxLen;omega) (by omega) (w0:=w) (B0:=w.heap.size) HS5.out.below HS5.out.below.size HS5.out.below.size (Nat.le_refl _) ?_;intro vB wB HO2 HB2 HG2;have HQ:=Lib.hid (HS5.out.more HO2.out HG2.out);clear HO2 HB2 HG2)
    go_ret;rw[HE.out];exact⟨_,rfl,HQ.out.below,HQ.out.own⟩
   obtain⟨b,off,x,hA3,hbb,hx,hdr,c0,c1,c2',hst,hxc⟩:=(HP.out.keep HS.out.below).at_ hlt;subst hA3;have HXX:=Lib.hid hx
   have HPD:Hid ((l.map (·.rt)).drop k=x.rt::(l.map (·.rt)).drop (k+1)):=by
    show _=_;rw[← List.map_drop,hdr,List.map_cons,List.map_drop]
   have hx80:x.rt.stops.length≤80:=i_A HRP.out (List.mem_map.2 ⟨x,List.mem_of_getElem? hx,rfl⟩);have hxn:x.n≤80:=by have:=hst.length;omega
   obtain⟨tr,htr⟩:∃t,b_C mm ds os x.rt=t:=⟨_,rfl⟩
   have htl:tr.length≤241:=by
    rw[← htr];cases hdo:a_o ds x.rt.drv with
    |none=>rw[f_J hdo];simp
    |some d=>rw[f_K hdo];have:=@m_g mm d os x.rt.stops;omega
   have HG1:=HG.out;rw[HPD.out]at HG1;have HN:Hid (Y=(l'++tr)++((l.map (·.rt)).drop (k+1)).flatMap (b_C mm ds os)++c_Q (l.map (·.rt)) os):=s_k HG1 htr;have HTR:=Lib.hid htr;have hln:l'.length≤241*k:=HLN.out;have HS3:=Lib.hid (HS.out.alloc (.cells #[.int .i64 x.rt.drv,.int .i64 x.rt.served,.slice x.a x.n x.c] 37));have HX3:Hid (RBox (wr.alloc (.cells #[.int .i64 x.rt.drv,.int .i64 x.rt.served,.slice x.a x.n x.c] 37)) wr.heap.size x):=Blk.new wr _ _;clear hx hdr hst HG1 HG htr;go_upto_region 7 with fail
   obtain⟨gx,hgx⟩:∃g,wr.heap.size=g:=⟨_,rfl⟩;obtain⟨w3,hw3⟩:∃u,wr.alloc (.cells #[.int .i64 x.rt.drv,.int .i64 x.rt.served,.slice x.a x.n x.c] 37)=u:=⟨_,rfl⟩;rw[hgx]at HX3;rw[hw3]at HS3 HX3
   (try rw[hgx])
   (try rw[hw3])
   clear hgx hw3 HS c0 c1 c2';obtain⟨r0,r1,r2⟩:=RBox.cells (x:=x) HX3.out;go_wp2_with fail
   refine(j_3 base q mm A n c ds A2 n2 c2 os x _ hxc hxn (by exact HM.out.keep HS3.out.below) HDK.out HKN.out (by exact Recs.more (Recs.keep HD.out HS3.out.below) HS3.out.below.size) (by exact Recs.more (Recs.keep HO.out HS3.out.below) HS3.out.below.size) (by exact Recs.more (((HP.out.keep HS3.out.below).each x (List.mem_of_getElem? HXX.out)).1) HS3.out.below.size)).mono ?_;rintro e w5 ⟨v5,rfl,hb5,ho5⟩;rw[HTR.out]at ho5;obtain⟨A5,c5,rfl,_,hr5⟩:=ho5.read;have HS5:=Lib.hid (HS3.out.next hb5);have HR5:=Lib.hid hr5;clear hb5 ho5 hr5 HS3 HX3 r0 r1 r2;go_wp2_with (at_builtin;refine a_T (o:=⟨some 33,_,_,_,_,_⟩) rfl (.tmp 27) (.tmp 32) Tryz.underlying78 h_G rfl (by decide) rfl (base:=w.heap.size) HS5.out.own rfl HR5.out rfl (i_x tr) (by unfold maxLen;omega) (by omega) (w0:=w) (B0:=w.heap.size) HS5.out.below HS5.out.below.size HS5.out.below.size (Nat.le_refl _) ?_;intro vB wB HO2 HB2 HG2;have HQ:=Lib.hid (HS5.out.more HO2.out HG2.out);clear HO2 HB2 HG2)
   go_roundw
   case rel=>exact⟨k+1,l'++tr,by omega,by go_num,HQ,HN,Lib.hid (by rw[List.length_append];omega)⟩
   case measure=>simp[intOf];omega
end Audit
end Go.Proofs.YtkpnmpjnpcjohaaGreat
