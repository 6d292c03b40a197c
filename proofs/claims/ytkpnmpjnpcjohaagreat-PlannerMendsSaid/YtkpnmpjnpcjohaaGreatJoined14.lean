import Derived.Test.YtkpnmpjnpcjohaaGreatPlnrRuns
set_option linter.unusedSimpArgs false
set_option linter.unusedVariables false
set_option maxHeartbeats 4000000
set_option maxRecDepth 100000
namespace Go.Proofs.YtkpnmpjnpcjohaaGreat
open ChangeShapes WideShapes ChangeAt RowKit Mem GeoMath
namespace Geo
open MemI
def t_l(w0:World)(b n v:Nat)(o:List Int)(e:Ending)(w':World):Prop:=
 e=.returned (.tuple #[])∧∃l,Clos w0 92 b n o l w'∧Thru n (v+1) l
theorem o_U(w0:World)(b n v:Nat)(o l:List Int)(w:World)(hC:Clos w0 92 b n o l w)(hT:Thru n v l)(hn:n≤12)(hv:v<n):
 Calls Tryz.prog 79 #[.pointer (some ⟨b,0,none⟩),.int .i64 v] w (t_l w0 b n v o):=by
 have HC0:=Lib.hid hC;have HT:=Lib.hid hT;have HM:=Lib.hid hC.2.2.map;clear hC hT
 have HZ0:Hid (∀ cur wr,Clos w0 92 b n o cur wr→wr.cell? ⟨b,0,none⟩=some (.int .i64 n)):=fun cur wr h=>by
  obtain⟨g,c,hb,_,_⟩:=h.2.1.open_;exact hb.cell (i:=0) rfl
 have z0:=HZ0.out _ _ HC0.out;go_enter Tryz.func79,Tryz.ntmps79;go_wp2
 go_loopw [11] (fun i wr=>∃(x:Nat) (cur:List Int),x≤n∧i=.int .i64 x∧Hid (Clos w0 92 b n o cur wr)∧Hid (Phase n v l cur x 0)) (fun i _=>n-(intOf i).toNat)
 case atStart=>exact⟨0,l,Nat.zero_le _,rfl,HC0,Phase.start n v l⟩
 case round=>
  clear z0 HC0;obtain⟨x,cur,hx,rfl,HC,HX⟩:=hrel;have z0:=HZ0.out _ _ HC.out;by_cases hlt:x<n
  ·go_wp2
   go_loopw [18] (fun i wr=>∃(y:Nat) (cur:List Int),y≤n∧i=.int .i64 y∧Hid (Clos w0 92 b n o cur wr)∧Hid (Phase n v l cur x y)) (fun i _=>n-(intOf i).toNat)
   case atStart=>exact⟨0,cur,Nat.zero_le _,rfl,HC,HX⟩
   case round=>
    clear z0 HX HC;obtain⟨y,cur,hy,rfl,HC,HY⟩:=hrel;have z0:=HZ0.out _ _ HC.out;by_cases hlt2:y<n
    ·obtain⟨g,c,hb,hbb,hi,hcap,hput⟩:=HC.out.2.1.put (by decide)
     have z1:=hb.cell (i:=1) rfl;obtain⟨c1,_⟩:=Ints.T_at0 hi hlt hlt2;obtain⟨q,i,g1,g2,g3,g4,g5,g6,g7⟩:=d_r hn hlt hlt2;rw[← g7]at c1;have G1:=Lib.hid g1;have G2:=Lib.hid g2;have HMAP:=Lib.hid HC.out.2.2.map;have l1:=HMAP.out.T_lo hlt hlt2;have l2:=HMAP.out.T_hi hlt hlt2
     have HTR:Hid (∀ u,Drawn wr u→Calls Tryz.prog 140 #[.pointer (some ⟨b,0,none⟩),.int .i64 x,.int .i64 v,.int .i64 y] u (d_t u (.int .i64 (T n cur x v+T n cur v y)))):=
      fun u hd=>i_U b n x v y g c cur _ ((hd.cell _).trans z0) ((hd.cell _).trans z1) hn (hd.reads hi) HMAP.out hlt hv hlt2
     obtain⟨t1,ht1⟩:∃t,T n cur x y=t:=⟨_,rfl⟩;obtain⟨t2,ht2⟩:∃t,T n cur x v+T n cur v y=t:=⟨_,rfl⟩;obtain⟨tm,htm⟩:∃t,min t1 t2=t:=⟨_,rfl⟩;obtain⟨hg,hfz,hput⟩:=hput i tm (by rw[g7];exact e_s hlt hlt2)
     have HCN:Hid (Clos w0 92 b n o (cur.set i tm) (wr.setCell ⟨g,i,none⟩ (.int .i64 tm))):=by
      refine⟨HC.out.1.setCell hg _,hput,?_⟩;rw[g7,←htm,←ht1,←ht2];exact HC.out.2.2.min hlt hv hlt2
     have HPN:Hid (Phase n v l (cur.set i tm) x (y+1)):=by
      rw[g7,←htm,←ht1,←ht2];exact HY.out.min HM.out HMAP.out.len hv hlt hlt2
     rw[ht2]at HTR;rw[ht1]at l1 l2 c1;clear g1 g2 g7 hi hb hput ht1 ht2;go_wp2_with (go_at_call 139;(with_reducible refine(q_T b n x y q i _ z0 G1.out G2.out g3 g4).mono ?_);rintro e w' ⟨rfl,rfl⟩)
     go_region_law (go_simp;go_at_call 140;refine(HTR.out _ (by first|exact Drawn.refl _|exact(Drawn.refl _).drew)).mono ?_;rintro e w' ⟨rfl,d,rfl⟩)
     all_goals
      go_wp2_with fail
      go_roundw
      case rel=>exact⟨y+1,_,by omega,by go_num,(by first|exact HCN.out.drew|exact HCN.out.drewN _|exact(HCN.out.drewN _).drew),HPN⟩
      case measure=>simp[intOf];omega
    ·have HN:Hid (Phase n v l cur (x+1) 0):=by
      have e:y=n:=by omega
      subst e;exact HY.out.row
     go_wp2
     go_roundw
     case rel=>exact⟨x+1,cur,by omega,by go_num,HC,HN⟩
     case measure=>simp[intOf];omega
  ·have HN:Hid (Thru n (v+1) cur):=by
    have e:x=n:=by omega
    subst e;exact HX.out.thru HM.out hv HT.out
   go_wp2
   exact bodyPost_ret (v:=.tuple #[]) (by kernel_rfl) rfl ⟨rfl,cur,HC.out,HN.out⟩
theorem k_z(base b n:Nat)(l:List Int)(w:World)(h:MapAt w 92 base b n l)(hn:n≤12)(hn1:1≤n)(hm:IsMap n l):
 Calls Tryz.prog 31 #[.pointer (some ⟨b,0,none⟩)] w (l_G 92 w n l):=by
 obtain⟨g0,cp,hb,hi,hcap⟩:=h.open_;have z0:=hb.cell (i:=0) rfl;have HBK:Hid (∀ wr,Below w.heap.size w wr→wr.cell? ⟨b,0,none⟩=some (.int .i64 n)):=fun wr hw=>(hw.cell (p:=⟨b,0,none⟩) hb.lt).trans z0
 have HTM:Hid (∀ u,Drawn w u→Calls Tryz.prog 78 #[.pointer (some ⟨b,0,none⟩)] u (s_E u 3 (n*n) (b_l l))):=fun u hd=>by
  obtain⟨d,rfl⟩:=hd;exact m_U base b n l _ (h.drewN d) hn hn1
 have HG:Hid (OnWay n l l):=OnWay.refl hm;have hsq0:0<n*n:=Nat.mul_pos hn1 hn1;clear h hb hi hm;go_enter Tryz.func31,Tryz.ntmps31;go_upto_region 3 with fail
 go_cut [3] (fun v wx=>∃b',v=.pointer (some ⟨b',0,none⟩)∧Hid (Clos w 92 b' n l l wx))
 case first=>
  go_region_law (go_simp;go_at_call 78;refine(HTM.out _ (by first|exact Drawn.refl _|exact(Drawn.refl _).drew)).mono ?_;rintro e w1 ⟨v1,rfl,HB1,HV⟩;obtain⟨g1,c1,rfl,hg1,hcp1⟩:=HV.row hsq0;have HV2:=Lib.hid HV;have HB2:Hid (Below w.heap.size w w1):=(Below.refl w.heap.size w).drew.trans HB1;clear HV HB1;have z0b:=HBK.out w1 HB2.out)
  all_goals
   go_wp2_with fail
   go_meet
   refine⟨_,rfl,HB2.out.alloc HB2.out.size _,⟨g1,c1,Blk.new w1 _ _,HB2.out.size,hcp1,HV2.out.alloc _⟩,HG.out⟩
 case rest=>
  obtain⟨b',rfl,HC0⟩:=hcut
  have HZ0:Hid (∀ cur wr,Clos w 92 b' n l cur wr→wr.cell? ⟨b',0,none⟩=some (.int .i64 n)):=fun cur wr h=>by
   obtain⟨g,c,hb,_,_⟩:=h.2.1.open_;exact hb.cell (i:=0) rfl
  clear z0;have z0:=HZ0.out _ _ HC0.out;go_wp2
  go_loopw [19] (fun i wr=>∃(x:Nat) (cur:List Int),x≤n∧i=.int .i64 x∧Hid (Clos w 92 b' n l cur wr)∧Hid (Thru n x cur)) (fun i _=>n-(intOf i).toNat)
  case atStart=>exact⟨0,l,Nat.zero_le _,rfl,HC0,Thru.zero n l⟩
  case round=>
   clear z0 HC0;obtain⟨x,cur,hx,rfl,HC,HX⟩:=hrel;by_cases hlt:x<n
   ·go_wp2_with fail
    go_at_call 79
    refine(o_U w b' n x l cur _ HC.out HX.out hn hlt).mono ?_;rintro e w' ⟨rfl,cur',HC2,HX2⟩;replace HC2:=Lib.hid HC2;replace HX2:=Lib.hid HX2;go_wp2
    go_roundw
    case rel=>exact⟨x+1,cur',by omega,by go_num,HC2,HX2⟩
    case measure=>simp[intOf];omega
   ·have HN:Hid (l_G 92 w n l (.returned (.pointer (some ⟨b',0,none⟩))) wr):=by
     have e:x=n:=by omega
     subst e;exact⟨HC.out.1,b',cur,rfl,HC.out.2.1,HC.out.2.2,HX.out.tri⟩
    go_wp2
    go_ret;exact HN.out
end Geo
namespace Pln
open FleetMath PlanMath CertMath AuditMath InsertMath RepairMath PlannerMath Rec Geo Span Deal Keep Plan Cert Audit
abbrev bvW(x:Wd):Bv:=⟨x.ds,x.os,x.pl⟩
abbrev bkW(ds:List Drv)(os:List FleetMath.Ord)(ps:List RM):Bk:=⟨ds,os,ps.map (·.rt)⟩
theorem CR.book{W u:World}{q r:Option Addr}{m:Option Mp}{x:Wd}{ds:List Drv}{os:List FleetMath.Ord}{ps:List RM}(h:CR W q r m x ds os ps u):BkR u u.heap.size (bvW x) (bkW ds os ps) ps:=⟨h.drvs,h.ords,h.plns,rfl⟩
theorem i_S(x:Wd)(w:World):Calls Tryz.prog 19 #[wdV x] w (a_y w (bkV (bvW x))):=by
 have HW0:Hid (WBox ((w.alloc (.cells #[.int .i64 x.n,x.ts.v,x.ds.v,x.os.v,x.pl.v] 55)).alloc (.cells #[.slice none 0 0,.slice none 0 0,.slice none 0 0] 42)) w.heap.size x):=(WBox.new w x).below ((Below.refl _ _).alloc (Nat.le_refl _) _)
 have HR0:Hid (BBox ((w.alloc (.cells #[.int .i64 x.n,x.ts.v,x.ds.v,x.os.v,x.pl.v] 55)).alloc (.cells #[.slice none 0 0,.slice none 0 0,.slice none 0 0] 42)) (w.heap.size+1) 42 bv0):=by
  show BBox _ _ _ _;have:=BBox.new (w.alloc (.cells #[.int .i64 x.n,x.ts.v,x.ds.v,x.os.v,x.pl.v] 55)) 42 bv0;simpa using this
 have HB0:Hid (Below w.heap.size w ((w.alloc (.cells #[.int .i64 x.n,x.ts.v,x.ds.v,x.os.v,x.pl.v] 55)).alloc (.cells #[.slice none 0 0,.slice none 0 0,.slice none 0 0] 42))):=((Below.refl _ _).alloc (Nat.le_refl _) _).alloc (by simp) _;go_enter Tryz.func19,Tryz.ntmps19;go_upto_region 1 with fail
 try simp only[World.size_alloc]
 obtain⟨X,hX⟩:∃u,((w.alloc (.cells #[.int .i64 x.n,x.ts.v,x.ds.v,x.os.v,x.pl.v] 55)).alloc (.cells #[.slice none 0 0,.slice none 0 0,.slice none 0 0] 42))=u:=⟨_,rfl⟩;rw[hX]at HW0 HR0 HB0 ⊢;clear hX;obtain⟨x0,x1,x2,x3,x4⟩:=HW0.out.cells;obtain⟨y0,y1,y2⟩:=HR0.out.cells;have hff:=Blk.free HR0.out;have HRS:=Lib.hid (a_t HR0.out (bvW x));have HBE:=Lib.hid (b_r (g:=w.heap.size+1) (a:=x.ds.v) (b:=x.os.v) (c:=x.pl.v) HB0.out (by omega));go_wp2_with fail
 refine bodyPost_ret (v:=bkV (bvW x)) ?_ rfl ⟨rfl,HBE.out⟩;obtain⟨q0,q1,q2⟩:=HRS.out;simp[results,Tryz.results19,go_sem,q0,q1,q2]
theorem k_A(base:Nat)(q:Option Addr)(m:Option Mp)(w:World)(h:MapP w 92 base (.pointer q) m):
 Calls Tryz.prog 31 #[.pointer q] w fun e w'=>∃q' m',e=.returned (.pointer q')∧Below w.heap.size w w'∧MapP w' 92 w.heap.size (.pointer q') m'∧(q'=none→m'=none)∧(∀ k,m'=some k→q'≠none∧Tri k.n k.ts):=by
 rcases h with⟨h1,rfl⟩|⟨b,n,l,h1,rfl,hm,h2,h3,h4⟩
 ·injection h1 with h1
  subst h1;go_enter Tryz.func31,Tryz.ntmps31;go_wp2_with fail
  go_ret;exact⟨none,none,rfl,Below.refl _ _,.inl ⟨rfl,rfl⟩,fun _=>rfl,fun k hk=>(by cases hk)⟩
 ·injection h1 with h1
  subst h1;refine(k_z base b n l w hm h3 h2 h4).mono ?_;rintro e w' ⟨hb,b',l',rfl,hm',hl⟩;exact⟨_,some ⟨n,l'⟩,rfl,hb,.inr ⟨b',n,l',rfl,rfl,hm',h2,h3,hl.good.map⟩,fun h=>(by cases h),fun k hk=>(by injection hk with hk;subst hk;exact⟨by simp,hl.tri⟩)⟩
end Pln
end Go.Proofs.YtkpnmpjnpcjohaaGreat
