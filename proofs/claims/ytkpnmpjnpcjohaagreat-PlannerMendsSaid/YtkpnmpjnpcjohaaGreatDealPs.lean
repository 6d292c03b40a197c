import Derived.Test.YtkpnmpjnpcjohaaGreatDealSmall
import Derived.Deep.RegionHeld3
import Derived.Deep.DeepCutAuto
set_option maxHeartbeats 4000000
set_option maxRecDepth 100000
namespace Go.Proofs.YtkpnmpjnpcjohaaGreat
open ChangeShapes WideShapes ChangeAt RowKit Mem GeoMath FleetMath Rec Geo Span
namespace Deal
theorem d_5(base:Nat)(pv:Value)(m:Option Mp)(d:Drv)(w:World)(h:MapP w 92 base pv m):
 Calls Tryz.prog 52 #[pv,drvV d] w (a_y w (.int .i64 (drvE m d))):=by
 rcases h with⟨rfl,rfl⟩|⟨b,n,l,rfl,rfl,hm,hn1,hn,hmap⟩
 ·go_enter Tryz.func52,Tryz.ntmps52
  go_wp2
  go_ret;exact⟨rfl,(Below.refl _ _).alloc (Nat.le_refl _) _⟩
 have HM:=Lib.hid hm;clear hm hmap;obtain⟨v,hv⟩:∃v,drvE (some ⟨n,l⟩) d=v:=⟨_,rfl⟩;have hv':=hv;rw[s_y]at hv';rw[hv];have HB0:Hid (Below w.heap.size w (w.alloc (.cells #[.int .i64 d.id,.int .i64 d.room,.int .i64 d.home,.int .i64 d.win.fr,.int .i64 d.win.to,.bool d.retired] 33))):=(Below.refl _ _).alloc (Nat.le_refl _) _;have HM0:Hid (MapAt (w.alloc (.cells #[.int .i64 d.id,.int .i64 d.room,.int .i64 d.home,.int .i64 d.win.fr,.int .i64 d.win.to,.bool d.retired] 33)) 92 base b n l):=HM.out.keep HB0.out (Nat.le_refl _);obtain⟨ra,hra⟩:∃r,inR 1 1000000 d.id=r:=⟨_,rfl⟩;obtain⟨rb,hrb⟩:∃r,inR 1 1000 d.room=r:=⟨_,rfl⟩;obtain⟨r1,hr1⟩:∃r,a_P ⟨n,l⟩ d.home=r:=⟨_,rfl⟩;obtain⟨r3,hr3⟩:∃r,right d.win=r:=⟨_,rfl⟩;rw[hra,hrb,hr1,hr3]at hv';have RA:=Lib.hid hra;have RB:=Lib.hid hrb;have R1:=Lib.hid hr1;have R3:=Lib.hid hr3;have HV:=Lib.hid hv';clear hra hrb hr1 hr3 hv hv' HM;go_enter Tryz.func52,Tryz.ntmps52;go_wp2_with fail
 refine(pnumbered_val _ ra _ RA.out).mono ?_;rintro e w' ⟨rfl,rfl⟩;cases ra with
 |false=>
  have e:v=1:=by have:=HV.out;simpa using this.symm
  subst e;go_wp2_with fail
  go_ret;exact⟨rfl,HB0.out⟩
 |true=>
 go_wp2_with fail
 refine(h_g _ rb _ RB.out).mono ?_;rintro e w' ⟨rfl,rfl⟩;cases rb with
 |false=>
  have e:v=14:=by have:=HV.out;simpa using this.symm
  subst e;go_wp2_with fail
  go_ret;exact⟨rfl,HB0.out⟩
 |true=>
 go_wp2_with fail
 refine(d_6 _ b n l _ r1 _ (by exact HM0.out) R1.out).mono ?_;rintro e w' ⟨rfl,rfl⟩;cases r1 with
 |false=>
  have e:v=12:=by have:=HV.out;simpa using this.symm
  subst e;go_wp2_with fail
  go_ret;exact⟨rfl,HB0.out⟩
 |true=>
 go_wp2_with fail
 refine(d_M d.win r3 _ R3.out).mono ?_;rintro e w3 ⟨rfl,hb3⟩;have HB3:Hid (Below w.heap.size w w3):=HB0.out.trans (hb3.mono HB0.out.size);clear hb3 HB0 HM0;cases r3 with
 |false=>
  have e:v=13:=by have:=HV.out;simpa using this.symm
  subst e;go_wp2_with fail
  go_ret;exact⟨rfl,HB3.out⟩
 |true=>
  have e:v=0:=by have:=HV.out;simpa using this.symm
  subst e;go_wp2_with fail
  go_ret;exact⟨rfl,HB3.out⟩
theorem Ords.front{w:World}{B n k:Nat}{A:Option Addr}{os:List FleetMath.Ord}(h:Ords w B A n os)(hk:k≤n):Ords w B A k (os.take k):=by
 have hl:os.length=n:=Ords.length h;obtain⟨h1,h2,h3⟩:=h;refine⟨by rw[a_U,List.length_take];omega,by omega,fun h0=>?_⟩;obtain⟨b,off,e,hb,hc⟩:=h3 (by omega);refine⟨b,off,e,hb,fun j u hu=>hc j u ?_⟩;have:a_g os=a_g (os.take k)++a_g (os.drop k):=by rw[← a_Z,List.take_append_drop]
 rw[this,List.getElem?_append_left (List.getElem?_eq_some_iff.1 hu).1];exact hu
theorem o_o(base:Nat)(pv:Value)(m:Option Mp)(o:FleetMath.Ord)(v:Int)(u0 u:World)(hb:Below u0.heap.size u0 u)(h:MapP u0 92 base pv m)(hv:ordE m o=v):
 Calls Tryz.prog 39 #[pv,ordV o] u fun e w'=>e=.returned (.int .i64 v)∧Below u0.heap.size u0 w':=by
 subst hv;exact(e_Q base pv m o u (h.keep hb)).mono fun e w' ⟨h1,h2⟩=>⟨h1,hb.trans (h2.mono hb.size)⟩
theorem s_w(A:Option Addr)(n c k:Nat)(os:List FleetMath.Ord)(id:Int)(r:Bool)(u0 u:World)(hb:Below u0.heap.size u0 u)(h:Ords u0 u0.heap.size A n os)(hk:k≤n)(hr:c_8 (os.take k) id=r):
 Calls Tryz.prog 217 #[.slice A k c,.int .i64 id] u fun e w'=>e=.returned (.bool r)∧Below u0.heap.size u0 w':=by
 subst hr;exact(plisted_any A k c (os.take k) id u (Ords.front (Recs.more (Recs.keep h hb) hb.size) hk)).mono fun e w' ⟨h1,h2⟩=>⟨h1,hb.trans (h2.mono hb.size)⟩
theorem h_f(base:Nat)(pv:Value)(m:Option Mp)(A:Option Addr)(n c:Nat)(os:List FleetMath.Ord)(w:World)(hnc:n≤c)(h:MapP w 92 base pv m)(hl:Ords w w.heap.size A n os):
 Calls Tryz.prog 164 #[pv,.slice A n c] w (a_y w (.bool (a_V m os))):=by
 have hm:=Recs.le hl;have HI:=Lib.hid hl;have HL:=Lib.hid hl.length;have HP:=Lib.hid h
 obtain⟨q,hq⟩:∃q,pv=.pointer q:=by
  rcases h with⟨rfl,_⟩|⟨b,_,_,rfl,_⟩
  ·exact⟨_,rfl⟩
  ·exact⟨_,rfl⟩
 subst hq;clear hl h;by_cases h40:40<n
 ·have HN:Hid (a_V m os=false):=by
   cases hk:a_V m os
   ·exact rfl
   ·have:=(known_iff.1 hk).1;have:=HL.out;omega
  go_enter Tryz.func164,Tryz.ntmps164;go_wp2
  go_ret;exact b_Z HN.out.symm (Below.refl _ _)
 go_enter Tryz.func164,Tryz.ntmps164;go_wp2
 go_loopw [12] (fun i wr=>∃k:Nat,k≤n∧i=.int .i64 k∧Hid (Below w.heap.size w wr)∧Hid (KnownTo m os k)) (fun i _=>n-(intOf i).toNat)
 case atStart=>exact⟨0,Nat.zero_le _,rfl,Below.refl _ _,by simp,by simp[Dist]⟩
 case round=>
  obtain⟨k,hk,rfl,HB,HK⟩:=hrel;by_cases hlt:k<n
  ·obtain⟨b,off,o,rfl,hb,ho,_,c0,c1,c2,c3,c4,c5,c6,c7,c8,c9⟩:=Ords.at_ (Recs.keep HI.out HB.out) hlt
   obtain⟨v,hv⟩:∃v,ordE m o=v:=⟨_,rfl⟩;obtain⟨r,hr⟩:∃r,c_8 (os.take k) o.id=r:=⟨_,rfl⟩;have HV:=Lib.hid hv;have HR:=Lib.hid hr;have HO:=Lib.hid ho;have hk0:(0:Int)≤(k:Int):=by omega
   have hkc:(k:Int)≤(c:Int):=by omega
   clear hv ho hr;go_upto_region 6 with fail
   obtain⟨u0,hu0⟩:∃u,wr.alloc (.cells #[.int .i64 o.id,.int .i64 o.size,.int .i64 o.pick.place,.int .i64 o.pick.win.fr,.int .i64 o.pick.win.to,.int .i64 o.pick.serv,.int .i64 o.drop.place,.int .i64 o.drop.win.fr,.int .i64 o.drop.win.to,.int .i64 o.drop.serv] 31)=u:=⟨_,rfl⟩;have HX0:Hid (OBox u0 wr.heap.size o):=by rw[← hu0];exact Blk.new wr _ _
   have HB0:Hid (Below w.heap.size w u0):=by rw[← hu0];exact HB.out.alloc HB.out.size _
   have HP0:Hid (MapP u0 92 base (.pointer q) m):=by
    rcases HP.out with h|⟨b',n',l',h1,h2,h3,h4⟩
    ·exact .inl h
    ·exact .inr ⟨b',n',l',h1,h2,h3.keep HB0.out (Nat.le_refl _),h4⟩
   have HI0:Hid (Ords u0 u0.heap.size (some ⟨b,off,none⟩) n os):=Recs.more (Recs.keep HI.out HB0.out) HB0.out.size;rw[hu0];obtain⟨g,hg⟩:∃g,wr.heap.size=g:=⟨_,rfl⟩;rw[hg]at HX0 ⊢;clear hu0 hg c0 c1 c2 c3 c4 c5 c6 c7 c8 c9 HB;have HS:Hid (∀ u,Below u0.heap.size u0 u→(u.cell? ⟨g,0,none⟩=some (.int .i64 o.id)∧u.cell? ⟨g,1,none⟩=some (.int .i64 o.size)∧u.cell? ⟨g,2,none⟩=some (.int .i64 o.pick.place)∧u.cell? ⟨g,3,none⟩=some (.int .i64 o.pick.win.fr)∧u.cell? ⟨g,4,none⟩=some (.int .i64 o.pick.win.to)∧u.cell? ⟨g,5,none⟩=some (.int .i64 o.pick.serv)∧u.cell? ⟨g,6,none⟩=some (.int .i64 o.drop.place)∧u.cell? ⟨g,7,none⟩=some (.int .i64 o.drop.win.fr)∧u.cell? ⟨g,8,none⟩=some (.int .i64 o.drop.win.to)∧u.cell? ⟨g,9,none⟩=some (.int .i64 o.drop.serv))∧Below u0.heap.size u0 u):=fun u hu=>⟨(HX0.out.below hu).cells,hu⟩;by_cases hv0:v=0
   ·subst hv0
    go_region_held3 (fun u=>(u.cell? ⟨g,0,none⟩=some (.int .i64 o.id)∧u.cell? ⟨g,1,none⟩=some (.int .i64 o.size)∧u.cell? ⟨g,2,none⟩=some (.int .i64 o.pick.place)∧u.cell? ⟨g,3,none⟩=some (.int .i64 o.pick.win.fr)∧u.cell? ⟨g,4,none⟩=some (.int .i64 o.pick.win.to)∧u.cell? ⟨g,5,none⟩=some (.int .i64 o.pick.serv)∧u.cell? ⟨g,6,none⟩=some (.int .i64 o.drop.place)∧u.cell? ⟨g,7,none⟩=some (.int .i64 o.drop.win.fr)∧u.cell? ⟨g,8,none⟩=some (.int .i64 o.drop.win.to)∧u.cell? ⟨g,9,none⟩=some (.int .i64 o.drop.serv))∧Below u0.heap.size u0 u)
     (first
       |(refine HS.out _ ?_;(first|assumption|exact(Below.refl _ _).drew|exact Below.refl _ _|exact Below.drew (by assumption))))
     (first
       |(go_at_call 39;(refine(o_o base _ m o 0 u0 _ (by first|assumption|exact(Below.refl _ _).drew) HP0.out HV.out).mono ?_);rintro e w' ⟨rfl,hbx⟩)
       |(go_at_call 217;(refine(s_w _ n c k os o.id r u0 _ (by first|assumption|exact(Below.refl _ _).drew) HI0.out (by omega) HR.out).mono ?_);rintro e w' ⟨rfl,hbx⟩))
    all_goals
     cases r
     ·have HN:Hid (KnownTo m os (k+1)):=HK.out.next HO.out HV.out fun t p ht hp he=>by
       have h1:=f_d (os:=os.take k) (id:=o.id) (k:=t) (o:=p) (by rw[List.getElem?_take,if_pos ht];exact hp) he;rw[HR.out]at h1;cases h1
      go_wp2_with fail
      go_roundw
      case rel=>exact⟨k+1,by omega,by go_num,HB0.out.trans (Below.mono (by assumption) HB0.out.size),HN⟩
      case measure=>simp[intOf];omega
     ·have HN:Hid (a_V m os=false):=by
       have h1:=HR.out;unfold c_8 at h1;rw[List.any_eq_true]at h1;obtain⟨p,hp,he⟩:=h1;obtain⟨t,ht⟩:=List.getElem?_of_mem hp;rw[List.getElem?_take]at ht;split at ht
       ·exact k_C (by assumption) ht HO.out (by simpa using he)
       ·cases ht
      go_wp2_with fail
      go_ret;exact b_Z HN.out.symm (HB0.out.trans (Below.mono (by assumption) HB0.out.size))
   ·have HN:Hid (a_V m os=false):=k_B HO.out (by rw[HV.out];exact hv0)
    obtain⟨n1,n2⟩:(v==0)=false∧(v != 0)=true:=by simp[hv0]
    clear hv0;obtain⟨c0,c1,c2,c3,c4,c5,c6,c7,c8,c9⟩:=HX0.out.cells
    first
     |(go_region_with (go_at_call 39;(refine(o_o base _ m o v u0 _ (by first|assumption|exact Below.refl _ _|exact(Below.refl _ _).drew) HP0.out HV.out).mono ?_);rintro e w' ⟨rfl,hbx⟩))
     |fail
    all_goals
     go_wp2_with fail
     go_ret;exact b_Z HN.out.symm (HB0.out.trans (Below.mono (by assumption) HB0.out.size))
  ·have HN:Hid (a_V m os=true):=by
    have e:k=os.length:=by have:=HL.out;omega
    have:=HK.out;rw[e]at this;exact this.all (by have:=HL.out;omega)
   go_wp2
   go_ret;exact b_Z HN.out.symm HB.out
end Deal
end Go.Proofs.YtkpnmpjnpcjohaaGreat
