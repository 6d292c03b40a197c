import Derived.Test.YtkpnmpjnpcjohaaGreatJoined16
set_option maxHeartbeats 4000000
set_option maxRecDepth 100000
namespace Go.Proofs.YtkpnmpjnpcjohaaGreat
open ChangeShapes WideShapes ChangeAt RowKit Mem GeoMath FleetMath Rec Geo Span
namespace Deal
def inR(lo hi a:Int):Bool:=decide (lo≤a∧a≤hi)
theorem i_G{lo hi a:Int}:inR lo hi a=false↔a<lo∨hi<a:=by
 unfold inR;rw[decide_eq_false_iff_not];omega
theorem s_x(m:Mp)(o:FleetMath.Ord):ordE (some m) o=
 if inR 1 1000000 o.id=false then 1
 else if inR 1 1000 o.size=false then 14
 else if a_P m o.pick.place=false∨a_P m o.drop.place=false then 12
 else if right o.pick.win=false∨right o.drop.win=false then 13
 else if inR 0 1000000 o.pick.serv=false∨inR 0 1000000 o.drop.serv=false then 7 else 0:=by
 rw[i_2];simp only[i_G,or_assoc]
theorem s_y(m:Mp)(d:Drv):drvE (some m) d=
 if inR 1 1000000 d.id=false then 1
 else if inR 1 1000 d.room=false then 14
 else if a_P m d.home=false then 12
 else if right d.win=false then 13 else 0:=by
 rw[i_3];simp only[i_G]
theorem pnumbered_val(a:Int)(r:Bool)(w:World)(h:inR 1 1000000 a=r):Calls Tryz.prog 84 #[.int .i64 a] w fun e w'=>e=.returned (.bool r)∧w=w':=by
 subst h;go_enter Tryz.func84,Tryz.ntmps84;go_wp2
 all_goals
  go_ret;refine⟨a_j ?_,rfl⟩
  first
   |(simp_all[inR];done)
   |(simp_all[inR];omega)
theorem h_g(a:Int)(r:Bool)(w:World)(h:inR 1 1000 a=r):Calls Tryz.prog 85 #[.int .i64 a] w fun e w'=>e=.returned (.bool r)∧w=w':=by
 subst h;go_enter Tryz.func85,Tryz.ntmps85;go_wp2
 all_goals
  go_ret;refine⟨a_j ?_,rfl⟩
  first
   |(simp_all[inR];done)
   |(simp_all[inR];omega)
theorem h_h(a:Int)(r:Bool)(w:World)(h:inR 0 1000000 a=r):Calls Tryz.prog 88 #[.int .i64 a] w fun e w'=>e=.returned (.bool r)∧w=w':=by
 subst h;go_enter Tryz.func88,Tryz.ntmps88;go_wp2
 all_goals
  go_ret;refine⟨a_j ?_,rfl⟩
  first
   |(simp_all[inR];done)
   |(simp_all[inR];omega)
theorem d_6(base b n:Nat)(l:List Int)(p:Int)(r:Bool)(w:World)(h:MapAt w 92 base b n l)(hr:a_P ⟨n,l⟩ p=r):
 Calls Tryz.prog 86 #[.pointer (some ⟨b,0,none⟩),.int .i64 p] w fun e w'=>e=.returned (.bool r)∧w=w':=by
 obtain⟨g,c,hb,_,_⟩:=h.open_;have z0:=hb.cell (i:=0) rfl;clear hb h;by_cases h1:p<0
 ·have h2:decide (0≤p)=false:=by simpa using h1
  have HN:Hid (false=r):=Lib.hid (by rw[← hr];unfold a_P;refine(decide_eq_false_iff_not.2 ?_).symm;omega);clear hr;go_enter Tryz.func86,Tryz.ntmps86;go_wp2
  go_ret;exact⟨a_j HN.out,rfl⟩
 ·have h3:decide (0≤p)=true:=by simpa using h1
  have HN:Hid (decide (p<(n:Int))=r):=by
   rw[← hr];unfold a_P;rw[decide_eq_decide];show _↔0≤p∧p<(n:Int);omega
  clear hr;go_enter Tryz.func86,Tryz.ntmps86;go_wp2_with (go_at_call 148;refine(f_R _ n _ z0).mono ?_;rintro e w' ⟨rfl,rfl⟩)
  all_goals
   go_ret;exact⟨a_j HN.out,rfl⟩
theorem e_Q(base:Nat)(pv:Value)(m:Option Mp)(o:FleetMath.Ord)(w:World)(h:MapP w 92 base pv m):
 Calls Tryz.prog 39 #[pv,ordV o] w (a_y w (.int .i64 (ordE m o))):=by
 rcases h with⟨rfl,rfl⟩|⟨b,n,l,rfl,rfl,hm,hn1,hn,hmap⟩
 ·go_enter Tryz.func39,Tryz.ntmps39
  go_wp2
  go_ret;exact⟨rfl,(Below.refl _ _).alloc (Nat.le_refl _) _⟩
 have HM:=Lib.hid hm;clear hm hmap;obtain⟨v,hv⟩:∃v,ordE (some ⟨n,l⟩) o=v:=⟨_,rfl⟩;have hv':=hv;rw[s_x]at hv';rw[hv];have HB0:Hid (Below w.heap.size w (w.alloc (.cells #[.int .i64 o.id,.int .i64 o.size,.int .i64 o.pick.place,.int .i64 o.pick.win.fr,.int .i64 o.pick.win.to,.int .i64 o.pick.serv,.int .i64 o.drop.place,.int .i64 o.drop.win.fr,.int .i64 o.drop.win.to,.int .i64 o.drop.serv] 31))):=(Below.refl _ _).alloc (Nat.le_refl _) _;have HX0:Hid (OBox (w.alloc (.cells #[.int .i64 o.id,.int .i64 o.size,.int .i64 o.pick.place,.int .i64 o.pick.win.fr,.int .i64 o.pick.win.to,.int .i64 o.pick.serv,.int .i64 o.drop.place,.int .i64 o.drop.win.fr,.int .i64 o.drop.win.to,.int .i64 o.drop.serv] 31)) w.heap.size o):=Blk.new w _ _;have HM0:Hid (MapAt (w.alloc (.cells #[.int .i64 o.id,.int .i64 o.size,.int .i64 o.pick.place,.int .i64 o.pick.win.fr,.int .i64 o.pick.win.to,.int .i64 o.pick.serv,.int .i64 o.drop.place,.int .i64 o.drop.win.fr,.int .i64 o.drop.win.to,.int .i64 o.drop.serv] 31)) 92 base b n l):=HM.out.keep HB0.out (Nat.le_refl _);obtain⟨ra,hra⟩:∃r,inR 1 1000000 o.id=r:=⟨_,rfl⟩;obtain⟨rb,hrb⟩:∃r,inR 1 1000 o.size=r:=⟨_,rfl⟩;obtain⟨r1,hr1⟩:∃r,a_P ⟨n,l⟩ o.pick.place=r:=⟨_,rfl⟩;obtain⟨r2,hr2⟩:∃r,a_P ⟨n,l⟩ o.drop.place=r:=⟨_,rfl⟩;obtain⟨r3,hr3⟩:∃r,right o.pick.win=r:=⟨_,rfl⟩;obtain⟨r4,hr4⟩:∃r,right o.drop.win=r:=⟨_,rfl⟩;obtain⟨r5,hr5⟩:∃r,inR 0 1000000 o.pick.serv=r:=⟨_,rfl⟩;obtain⟨r6,hr6⟩:∃r,inR 0 1000000 o.drop.serv=r:=⟨_,rfl⟩;rw[hra,hrb,hr1,hr2,hr3,hr4,hr5,hr6]at hv';have RA:=Lib.hid hra;have RB:=Lib.hid hrb;have R1:=Lib.hid hr1;have R2:=Lib.hid hr2;have R3:=Lib.hid hr3;have R4:=Lib.hid hr4;have R5:=Lib.hid hr5;have R6:=Lib.hid hr6;have HV:=Lib.hid hv';clear hra hrb hr1 hr2 hr3 hr4 hr5 hr6 hv hv' HM;go_enter Tryz.func39,Tryz.ntmps39;go_wp2_with fail
 refine(pnumbered_val _ ra _ RA.out).mono ?_;rintro e w' ⟨rfl,rfl⟩;cases ra with
 |false=>
  have e:v=1:=by have:=HV.out;simpa using this.symm
  subst e;go_wp2_with fail
  go_ret;exact⟨rfl,HB0.out⟩
 |true=>
 go_wp2_with fail
 refine(h_g _ rb _ RB.out).mono ?_;rintro e w' ⟨rfl,rfl⟩;cases rb with
 |false=>
  have e:v=14:=by have:=HV.out;simpa using this.symm
  subst e;go_wp2_with fail
  go_ret;exact⟨rfl,HB0.out⟩
 |true=>
 go_wp2_with fail
 refine(d_6 _ b n l _ r1 _ (by exact HM0.out) R1.out).mono ?_;rintro e w' ⟨rfl,rfl⟩;cases r1 with
 |false=>
  have e:v=12:=by have:=HV.out;simpa using this.symm
  subst e;go_wp2_with fail
  go_ret;exact⟨rfl,HB0.out⟩
 |true=>
 go_wp2_with fail
 refine(d_6 _ b n l _ r2 _ (by exact HM0.out) R2.out).mono ?_;rintro e w' ⟨rfl,rfl⟩;cases r2 with
 |false=>
  have e:v=12:=by have:=HV.out;simpa using this.symm
  subst e;go_wp2_with fail
  go_ret;exact⟨rfl,HB0.out⟩
 |true=>
 go_wp2_with fail
 refine(d_M o.pick.win r3 _ R3.out).mono ?_;rintro e w3 ⟨rfl,hb3⟩;have HX3:=Lib.hid (HX0.out.below hb3);have HB3:Hid (Below w.heap.size w w3):=HB0.out.trans (hb3.mono HB0.out.size);obtain⟨c0,c1,c2,c3,c4,c5,c6,c7,c8,c9⟩:=HX3.out.cells;clear hb3 HX0 HB0 HM0;cases r3 with
 |false=>
  have e:v=13:=by have:=HV.out;simpa using this.symm
  subst e;go_wp2_with fail
  go_ret;exact⟨rfl,HB3.out⟩
 |true=>
 go_wp2_with fail
 refine(d_M o.drop.win r4 _ R4.out).mono ?_;rintro e w4 ⟨rfl,hb4⟩;have HX4:=Lib.hid (HX3.out.below hb4);have HB4:Hid (Below w.heap.size w w4):=HB3.out.trans (hb4.mono HB3.out.size);clear c0 c1 c2 c3 c4 c5 c6 c7 c8 c9;obtain⟨c0,c1,c2,c3,c4,c5,c6,c7,c8,c9⟩:=HX4.out.cells;clear hb4 HX3 HB3;cases r4 with
 |false=>
  have e:v=13:=by have:=HV.out;simpa using this.symm
  subst e;go_wp2_with fail
  go_ret;exact⟨rfl,HB4.out⟩
 |true=>
 go_wp2_with fail
 refine(h_h _ r5 _ R5.out).mono ?_;rintro e w' ⟨rfl,rfl⟩;cases r5 with
 |false=>
  have e:v=7:=by have:=HV.out;simpa using this.symm
  subst e;go_wp2_with fail
  go_ret;exact⟨rfl,HB4.out⟩
 |true=>
 go_wp2_with fail
 refine(h_h _ r6 _ R6.out).mono ?_;rintro e w' ⟨rfl,rfl⟩;cases r6 with
 |false=>
  have e:v=7:=by have:=HV.out;simpa using this.symm
  subst e;go_wp2_with fail
  go_ret;exact⟨rfl,HB4.out⟩
 |true=>
  have e:v=0:=by have:=HV.out;simpa using this.symm
  subst e;go_wp2_with fail
  go_ret;exact⟨rfl,HB4.out⟩
def c_8(os:List FleetMath.Ord)(id:Int):Bool:=os.any fun p=>decide (p.id=id)
theorem f_d{os:List FleetMath.Ord}{id:Int}{k:Nat}{o:FleetMath.Ord}(h:os[k]?=some o)(he:o.id=id):c_8 os id=true:=by
 unfold c_8;rw[List.any_eq_true];exact⟨o,List.mem_of_getElem? h,by simpa using he⟩
theorem h_S{os:List FleetMath.Ord}{id:Int}(h:∀k p,k<os.length→os[k]?=some p→p.id≠id):c_8 os id=false:=by
 unfold c_8;rw[List.any_eq_false];intro p hp;obtain⟨k,hk⟩:=List.getElem?_of_mem hp;simpa using h k p (List.getElem?_eq_some_iff.1 hk).1 hk
theorem plisted_any(A:Option Addr)(n c:Nat)(os:List FleetMath.Ord)(id:Int)(w:World)(hl:Ords w w.heap.size A n os):
 Calls Tryz.prog 217 #[.slice A n c,.int .i64 id] w (a_y w (.bool (c_8 os id))):=by
 have hm:=Recs.le hl;have HI:=Lib.hid hl;have HL:=Lib.hid hl.length;clear hl;go_enter Tryz.func217,Tryz.ntmps217;go_wp2
 go_loopw [9] (fun i wr=>∃k:Nat,k≤n∧i=.int .i64 k∧Hid (Below w.heap.size w wr)∧Hid (∀ t p,t<k→os[t]?=some p→p.id≠id)) (fun i _=>n-(intOf i).toNat)
 case atStart=>exact⟨0,Nat.zero_le _,rfl,Below.refl _ _,fun t p ht=>absurd ht (by omega)⟩
 case round=>
  obtain⟨k,hk,rfl,HB,HK⟩:=hrel;by_cases hlt:k<n
  ·obtain⟨b,off,o,rfl,hb,ho,_,c0,c1,c2,c3,c4,c5,c6,c7,c8,c9⟩:=Ords.at_ (Recs.keep HI.out HB.out) hlt
   have HO:=Lib.hid ho;clear ho;by_cases hid:o.id=id
   ·have HN:=Lib.hid (f_d HO.out hid)
    subst hid;go_wp2
    go_ret;exact b_Z HN.out.symm (HB.out.alloc HB.out.size _)
   ·have HK2:Hid (∀ t p,t<k+1→os[t]?=some p→p.id≠id):=fun t p' ht hp'=>by
     by_cases htj:t=k
     ·subst htj
      rw[HO.out]at hp';injection hp' with hp';rw[← hp'];exact hid
     ·exact HK.out t p' (by omega) hp'
    obtain⟨n1,n2⟩:(o.id==id)=false∧(o.id != id)=true:=by simp[hid]
    go_wp2
    go_roundw
    case rel=>exact⟨k+1,by omega,by go_num,HB.out.alloc HB.out.size _,HK2⟩
    case measure=>simp[intOf];omega
  ·have HN:Hid (c_8 os id=false):=h_S fun t p ht hp=>HK.out t p (by have:=HL.out;omega) hp
   go_wp2
   go_ret;exact b_Z HN.out.symm HB.out
end Deal
end Go.Proofs.YtkpnmpjnpcjohaaGreat
