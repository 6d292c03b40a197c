import Derived.Test.YtkpnmpjnpcjohaaGreatRouteDrivesP
import Derived.Test.YtkpnmpjnpcjohaaGreatJoined17
set_option maxHeartbeats 4000000
set_option maxRecDepth 100000
namespace Go.Proofs.YtkpnmpjnpcjohaaGreat
open GeoMath
namespace FleetMath
def c_i:Int→List Vis→Int
 |_,[]=>0
 |l,v::r=>(v.arrive-l)+c_i v.leave r
def q_k:Int→List Vis→Prop
 |_,[]=>True
 |l,v::r=>(0≤l∧l≤2000000)∧(0≤v.arrive-l∧v.arrive-l≤1000000)∧q_k v.leave r
theorem q_l{m:Mp}{d:Drv}{os:List Ord}(hm:∀a b,0≤time m a b∧time m a b≤1000000)(hk:∀o∈os,OrdOk m o){stops:List Stp}{seen:List Stp}{st st':St}{vs:List Vis}(hl:0≤st.left∧st.left≤2000000)(h:run m d os seen st stops=.ok (st',vs)):
 q_k st.left vs∧c_i st.left vs=f_8 m os st.at_ stops:=by
 induction stops generalizing seen st vs with
 |nil=>rw[f_7]at h;injection h with h;injection h with _ h;subst h;exact⟨trivial,rfl⟩
 |cons s r ih=>
  rw[b_c]at h;split at h
  ·cases h
  rename_i st1 v hs
  split at h
  ·cases h
  rename_i st2 us hr
  injection h with h;injection h with e1 e2;subst e1;subst e2;obtain⟨o,hmd⟩:=step_ok.1 hs;have ho:=hk o (c_d hmd.find).1;obtain⟨q1,q2,_⟩:=served_some.1 hmd.serve;have hw:=right_iff.1 (has_iff.1 (c_c q1).1).1;have hb:=c_c q1
  have hsv:0≤(a_e o s).serv∧(a_e o s).serv≤1000000:=by
   unfold a_e;split
   ·exact ho.dropS
   ·exact ho.pickS
  have ht:=hm st.at_ (a_e o s).place;have e3:=hmd.st';subst e3;obtain⟨h1,h2⟩:=ih (st:=⟨(a_e o s).place,v.leave,a_k o s st.load⟩) ⟨by simp only;omega,by simp only;omega⟩ hr;refine⟨⟨hl,by rw[hmd.arrive];omega,h1⟩,?_⟩;simp only[c_i,f_8];rw[h2,o_8 hmd.find,hmd.arrive];simp only;omega
end FleetMath
namespace Route
open ChangeShapes WideShapes ChangeAt RowKit Mem FleetMath Rec Geo Span Deal
theorem pgood_v(k:Nat)(e:Int)(b:Bool)(w:World)(hb:(e==0)=b):Calls Tryz.prog 51 #[faultV k e] w (a_y w (.bool b)):=by
 subst hb;go_enter Tryz.func51,Tryz.ntmps51;go_wp2
 go_ret;exact⟨rfl,(Below.refl _ _).alloc (Nat.le_refl _) _⟩
theorem g_E(base:Nat)(pv:Value)(m:Option Mp)(d:Drv)(A:Option Addr)(n c:Nat)(os:List FleetMath.Ord)(A':Option Addr)(n' c':Nat)(stops:List Stp)(w:World)(h:MapP w 92 base pv m)(ho:Ords w w.heap.size A n os)(hs:Stps w w.heap.size A' n' stops)(hcc:n'≤c')(hnc:n≤c):
 Calls Tryz.prog 144 #[pv,drvV d,.slice A n c,.slice A' n' c'] w (a_y w (optV (cost m d os stops))):=by
 have b0:Below w.heap.size w (w.alloc (.cells #[.int .i64 d.id,.int .i64 d.room,.int .i64 d.home,.int .i64 d.win.fr,.int .i64 d.win.to,.bool d.retired] 33)):=(Below.refl _ _).alloc (Nat.le_refl _) _;have HB0:=Lib.hid b0;have HD0:Hid (DBox (w.alloc (.cells #[.int .i64 d.id,.int .i64 d.room,.int .i64 d.home,.int .i64 d.win.fr,.int .i64 d.win.to,.bool d.retired] 33)) w.heap.size d):=Blk.new w _ _;have HM:=Lib.hid h;have HOS:=Lib.hid ho;have HST:=Lib.hid hs;have HLS:=Lib.hid hs.length;have hnm:=Recs.le ho;have hnm':=Recs.le hs
 obtain⟨q,hq⟩:∃q,pv=.pointer q:=by
  rcases h with⟨rfl,_⟩|⟨b,_,_,rfl,_⟩
  ·exact⟨_,rfl⟩
  ·exact⟨_,rfl⟩
 subst hq;obtain⟨r,hr⟩:∃r,a_J m d os stops=r:=⟨_,rfl⟩;have HR:=Lib.hid hr;clear h ho hs b0 hr;have HDRV:=Lib.hid (h_D base (.pointer q) m d A n c os A' n' c' stops _ (HM.out.keep HB0.out) (Recs.more (Recs.keep HOS.out HB0.out) HB0.out.size) (Recs.more (Recs.keep HST.out HB0.out) HB0.out.size) hcc hnc);go_enter Tryz.func144,Tryz.ntmps144;go_wp2_with fail
 refine HDRV.out.mono ?_;rintro e w1 ⟨hb1,v,rfl,hv⟩;have HR':=HR.out;rw[HR']at hv ⊢;obtain⟨A1,c1,rfl,_,hvr⟩:=hv.read;have hnv:=Recs.le hvr
 have HB1:Hid (Below w.heap.size w (w1.alloc (.cells #[.int .i64 (r.2.1:Int),.int .i64 r.2.2] 108))):=by
  have:=HB0.out.trans (hb1.mono HB0.out.size);exact this.alloc this.size _
 have HD1:Hid (DBox (w1.alloc (.cells #[.int .i64 (r.2.1:Int),.int .i64 r.2.2] 108)) w.heap.size d):=(HD0.out.below hb1).below ((Below.refl _ _).alloc (Nat.le_refl _) _);have HV1:Hid (Viss (w1.alloc (.cells #[.int .i64 (r.2.1:Int),.int .i64 r.2.2] 108)) w1.heap.size A1 r.1.length r.1):=Recs.keep hvr ((Below.refl _ _).alloc (Nat.le_refl _) _);have hsz:w1.heap.size≤(w1.alloc (.cells #[.int .i64 (r.2.1:Int),.int .i64 r.2.2] 108)).heap.size:=by simp
 have HSZ:=Lib.hid hsz;clear hb1 hv hvr HR' HB0 HD0 HDRV hsz;obtain⟨ff,hff⟩:∃x,r.2.2=x:=⟨_,rfl⟩;obtain⟨fk,hfk⟩:∃x,r.2.1=x:=⟨_,rfl⟩;rw[hff,hfk]at HB1 HD1 HV1 HSZ ⊢;obtain⟨gb,hgb⟩:∃b,(ff==0)=b:=⟨_,rfl⟩;have HGB:=Lib.hid hgb;have HFF:=Lib.hid hff;clear hgb hff hfk;go_wp2_with fail
 refine(pgood_v fk ff gb _ HGB.out).mono ?_;rintro e w2 ⟨rfl,hb2⟩;have HB2:=Lib.hid (HB1.out.trans (hb2.mono HB1.out.size));have HD2:=Lib.hid (HD1.out.below hb2);have HV2:Hid (Viss w2 w2.heap.size A1 r.1.length r.1):=Recs.more (Recs.keep HV1.out (hb2.mono HSZ.out)) (Nat.le_trans HSZ.out hb2.size);clear hb2 HB1 HD1 HV1 HSZ;cases gb with
 |false=>
  have HC:Hid (cost m d os stops=none):=by
   have h0:ff≠0:=by have:=HGB.out;simpa using this
   show cost m d os stops=none;unfold cost;split
   ·rfl
   ·rw[HR.out,HFF.out,if_neg h0]
  go_wp2_with fail
  go_ret2
  exact h_s (by rw[HC.out];rfl) HB2.out
 |true=>
 have h0:ff=0:=by have:=HGB.out;simpa using this
 have hfine:(a_J m d os stops).2.2=0:=by rw[HR.out,HFF.out];exact h0
 obtain⟨m',st,hm',hrun,h80,hkn,hdv⟩:=b_F hfine;subst hm';obtain⟨mn,ml⟩:=m';obtain⟨bm,hbm⟩:=h_6 HM.out;subst hbm;obtain⟨m2,hm2,hdk⟩:=drvE_ok.1 hdv;have hwr:=right_iff.1 hdk.win;rw[HR.out]at hrun;obtain⟨vs,hvs⟩:∃x,r.1=x:=⟨_,rfl⟩;rw[hvs]at hrun HV2 hnv ⊢;have hro:=q_l (fun a b=>b_1 (f_Y HM.out).2.2 a b) (e_v hkn) (st:=st0 d) ⟨hwr.1,by show d.win.fr≤2000000;omega⟩ hrun
 have HC:Hid (cost (some ⟨mn,ml⟩) d os stops=some (c_i d.win.fr vs)):=by
  show cost _ _ _ _=_;unfold cost;simp only;rw[if_pos hfine];exact congrArg some hro.2.symm
 have HRO:Hid (q_k d.win.fr vs):=hro.1
 have HLV:Hid (vs.length≤80):=by
  have h1:=HV2.out.length;have h2:=k_K hrun;show _≤_;omega
 have hlv:=HLV.out;have w1b:0≤d.win.fr∧d.win.fr≤2000000:=⟨hwr.1,by omega⟩;obtain⟨wb1,wb2⟩:=w1b;clear h0 hfine hrun h80 hkn hdv hm2 hdk hwr hvs hro HGB HFF;obtain⟨d0,d1,d2,d3,d4,d5⟩:=HD2.out.cells;go_wp2_with fail
 go_quiet (fail)
 go_wp2
 go_loopw [12,13,32] (fun cv lv iv wr=>∃(k:Nat) (cc l:Int),k≤vs.length∧iv=.int .i64 k∧cv=.int .i64 cc∧lv=.int .i64 l∧(0≤cc∧cc≤1000000*(k:Int))∧Hid (Below w2.heap.size w2 wr)∧Hid (q_k l (vs.drop k))∧Hid (c_i d.win.fr vs=cc+c_i l (vs.drop k))) (fun _ _ iv _=>vs.length-(intOf iv).toNat)
 case atStart=>exact⟨0,0,d.win.fr,Nat.zero_le _,rfl,rfl,rfl,⟨Int.le_refl _,by simp⟩,a_l (Below.refl _ _) _,HRO,by show c_i _ _=_;simp⟩
 case round=>
  clear d0 d1 d2 d3 d4 d5;obtain⟨k,cc,l,hk,rfl,rfl,rfl,⟨hc1,hc2⟩,HB,HRL,HE⟩:=hrel;by_cases hlt:k<vs.length
  case neg=>
   have HE2:Hid (optV (cost (some ⟨mn,ml⟩) d os stops)=.tuple #[.int .i64 cc,.bool true]):=by
    show optV _=_;rw[HC.out,HE.out,List.drop_of_length_le (by omega)];simp[c_i,optV]
   have HBE:=Lib.hid (HB2.out.trans (HB.out.mono HB2.out.size));go_wp2_with fail
   go_ret2
   exact h_s HE2.out.symm HBE.out
  obtain⟨b,off,x,rfl,hbw,hx,hdr,k0,k1,k2,k3,k4,k5⟩:=Viss.at_ (Recs.keep HV2.out HB.out) hlt;have hrl:=HRL.out;rw[hdr]at hrl;obtain⟨⟨rb1,rb2⟩,⟨rb3,rb4⟩,hrn⟩:=hrl;have HRN:Hid (q_k x.leave (vs.drop (k+1))):=hrn
  have HEN:Hid (c_i d.win.fr vs=(cc+(x.arrive-l))+c_i x.leave (vs.drop (k+1))):=by
   show c_i _ _=_;rw[HE.out,hdr];simp only[c_i];omega
  clear hx hdr hrn HE HRL;go_wp2_with fail
  go_roundw
  case rel=>exact⟨k+1,cc+(x.arrive-l),x.leave,by omega,by go_num,rfl,rfl,⟨by omega,by omega⟩,HB.out.alloc HB.out.size _,HRN,HEN⟩
  case measure=>simp[intOf];omega
end Route
end Go.Proofs.YtkpnmpjnpcjohaaGreat
