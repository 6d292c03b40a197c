import Derived.Test.YtkpnmpjnpcjohaaGreatPlnrEs
set_option linter.unusedSimpArgs false
set_option linter.unusedVariables false
set_option maxHeartbeats 16000000
set_option maxRecDepth 100000
namespace Go.Proofs.YtkpnmpjnpcjohaaGreat
open ChangeShapes WideShapes ChangeAt RowKit Mem GeoMath FleetMath PlanMath CertMath AuditMath InsertMath RepairMath PlannerMath Rec Geo Span Deal Keep Plan Cert Audit
namespace Pln
structure Ask where
 kind:Int
 id:Int
 n:Int
 o:FleetMath.Ord
 d:Drv
abbrev askV(a:Ask):Value:=.agg #[.int .i64 a.kind,.int .i64 a.id,.int .i64 a.n,.int .i64 a.o.id,.int .i64 a.o.size,.int .i64 a.o.pick.place,.int .i64 a.o.pick.win.fr,.int .i64 a.o.pick.win.to,.int .i64 a.o.pick.serv,.int .i64 a.o.drop.place,.int .i64 a.o.drop.win.fr,.int .i64 a.o.drop.win.to,.int .i64 a.o.drop.serv,.int .i64 a.d.id,.int .i64 a.d.room,.int .i64 a.d.home,.int .i64 a.d.win.fr,.int .i64 a.d.win.to,.bool a.d.retired]
abbrev askC(a:Ask):List Value:=[.int .i64 a.kind,.int .i64 a.id,.int .i64 a.n,.int .i64 a.o.id,.int .i64 a.o.size,.int .i64 a.o.pick.place,.int .i64 a.o.pick.win.fr,.int .i64 a.o.pick.win.to,.int .i64 a.o.pick.serv,.int .i64 a.o.drop.place,.int .i64 a.o.drop.win.fr,.int .i64 a.o.drop.win.to,.int .i64 a.o.drop.serv,.int .i64 a.d.id,.int .i64 a.d.room,.int .i64 a.d.home,.int .i64 a.d.win.fr,.int .i64 a.d.win.to,.bool a.d.retired]
def doM(m:Option Mp)(b:Bk)(a:Ask):Bk×Int×Int:=
 if a.kind=1 then((b_d m b a.o a.n).1,0,(b_d m b a.o a.n).2)
 else if a.kind=2 then((d_w m b a.id).1,0,(d_w m b a.id).2)
 else if a.kind=3 then((c_M m b a.d).1,0,(c_M m b a.d).2)
 else if a.kind=4 then((a_W m b a.id a.n).1,0,(a_W m b a.id a.n).2)
 else if a.kind=5 then((b_N m b a.id a.n).1,0,(b_N m b a.id a.n).2)
 else if a.kind=6 then c_N m b a.n
 else(bk0,0,1)
structure PD(w:World)(q:Option Addr)(m:Option Mp)(base:Nat)(x:Bv)(b:Bk)(ps:List RM)(a:Ask)(u:World):Prop where
 pc:PC w q m base w.heap.size (w.heap.size+2) x b ps u
 ask:Blk u (w.heap.size+1) 74 (askC a)
 var:BBox u (w.heap.size+3) 42 bv0
theorem PD.next{w u u':World}{q:Option Addr}{m:Option Mp}{base:Nat}{x:Bv}{b:Bk}{ps:List RM}{a:Ask}(h:PD w q m base x b ps a u)(hb:Below u.heap.size u u'):PD w q m base x b ps a u':=⟨h.pc.next hb,h.ask.below hb h.ask.lt,h.var.below hb⟩
theorem PD.start(w:World)(q:Option Addr)(m:Option Mp)(base:Nat)(x:Bv)(b:Bk)(ps:List RM)(a:Ask)(h:MapP w 92 base (.pointer q) m)(hx:BkR w w.heap.size x b ps):PD w q m base x b ps a ((((w.alloc (.cells #[x.ds.v,x.os.v,x.pl.v] 42)).alloc (.cells #[.int .i64 a.kind,.int .i64 a.id,.int .i64 a.n,.int .i64 a.o.id,.int .i64 a.o.size,.int .i64 a.o.pick.place,.int .i64 a.o.pick.win.fr,.int .i64 a.o.pick.win.to,.int .i64 a.o.pick.serv,.int .i64 a.o.drop.place,.int .i64 a.o.drop.win.fr,.int .i64 a.o.drop.win.to,.int .i64 a.o.drop.serv,.int .i64 a.d.id,.int .i64 a.d.room,.int .i64 a.d.home,.int .i64 a.d.win.fr,.int .i64 a.d.win.to,.bool a.d.retired] 74)).alloc (.cells #[.slice none 0 0,.slice none 0 0,.slice none 0 0] 42)).alloc (.cells #[.slice none 0 0,.slice none 0 0,.slice none 0 0] 42)):=by
 obtain⟨u1,hu1⟩:∃u,w.alloc (.cells #[x.ds.v,x.os.v,x.pl.v] 42)=u:=⟨_,rfl⟩;obtain⟨u2,hu2⟩:∃u,u1.alloc (.cells #[.int .i64 a.kind,.int .i64 a.id,.int .i64 a.n,.int .i64 a.o.id,.int .i64 a.o.size,.int .i64 a.o.pick.place,.int .i64 a.o.pick.win.fr,.int .i64 a.o.pick.win.to,.int .i64 a.o.pick.serv,.int .i64 a.o.drop.place,.int .i64 a.o.drop.win.fr,.int .i64 a.o.drop.win.to,.int .i64 a.o.drop.serv,.int .i64 a.d.id,.int .i64 a.d.room,.int .i64 a.d.home,.int .i64 a.d.win.fr,.int .i64 a.d.win.to,.bool a.d.retired] 74)=u:=⟨_,rfl⟩;obtain⟨u3,hu3⟩:∃u,u2.alloc (.cells #[.slice none 0 0,.slice none 0 0,.slice none 0 0] 42)=u:=⟨_,rfl⟩;obtain⟨u4,hu4⟩:∃u,u3.alloc (.cells #[.slice none 0 0,.slice none 0 0,.slice none 0 0] 42)=u:=⟨_,rfl⟩;have s1:u1.heap.size=w.heap.size+1:=by rw[← hu1];simp
 have s2:u2.heap.size=w.heap.size+2:=by rw[← hu2];simp[s1]
 have s3:u3.heap.size=w.heap.size+3:=by rw[← hu3];simp[s2]
 rw[hu1,hu2,hu3,hu4];have b1:Below w.heap.size w u1:=by rw[← hu1];exact(Below.refl _ _).alloc (Nat.le_refl _) _
 have b2:Below u1.heap.size u1 u2:=by rw[← hu2];exact(Below.refl _ _).alloc (Nat.le_refl _) _
 have b3:Below u2.heap.size u2 u3:=by rw[← hu3];exact(Below.refl _ _).alloc (Nat.le_refl _) _
 have b4:Below u3.heap.size u3 u4:=by rw[← hu4];exact(Below.refl _ _).alloc (Nat.le_refl _) _
 have k1:BBox u1 w.heap.size 42 x:=by rw[← hu1];exact BBox.new _ _ _
 have k2:Blk u2 (w.heap.size+1) 74 (askC a):=by rw[← hu2,←s1];exact Blk.new _ _ _
 have k3:BBox u3 (w.heap.size+2) 42 bv0:=by rw[← hu3,←s2];exact BBox.new u2 _ bv0
 have k4:BBox u4 (w.heap.size+3) 42 bv0:=by rw[← hu4,←s3];exact BBox.new u3 _ bv0
 exact⟨⟨b1.trans ((b2.mono b1.size).trans ((b3.mono (by omega)).trans (b4.mono (by omega)))),h,hx,((k1.below b2).below b3).below b4,k3.below b4⟩,((k2.below b3 k2.lt).below b4 (by rw[s3];omega)),k4⟩
theorem e_D{w u u':World}{g h:Nat}{x x' y:Bv}{b:Bk}{ps:List RM}(hb:Below w.heap.size w u)(hg:g<u.heap.size)(hh:h<u.heap.size)(hn:BkN u u' y b ps)(hgw:w.heap.size≤g)(hhw:w.heap.size≤h):BkN w (put3 (put3 u' g x.ds.v x.os.v x.pl.v) h x'.ds.v x'.os.v x'.pl.v) y b ps:=by
 have h1:=a_M u' g x;have h2:=a_M (put3 u' g x.ds.v x.os.v x.pl.v) h x';have st:∀{k n:Nat} {e:TypeId} {v:Value} {vs:List Value},OwnK u' u.heap.size e k v n vs→OwnK (put3 (put3 u' g x.ds.v x.os.v x.pl.v) h x'.ds.v x'.os.v x'.pl.v) w.heap.size e k v n vs:=fun ho=>(h2.own (h1.own ho hg) hh).lower hb.size;exact⟨st hn.ds,st hn.os,⟨b_r (b_r (hb.trans (hn.old.mono hb.size)) hgw) hhw,st hn.pl.own,fun r hr=>⟨st (hn.pl.each r hr).1,(hn.pl.each r hr).2⟩⟩,hn.rt,hn.fits,hn.two⟩
theorem p_H(base:Nat)(q:Option Addr)(m:Option Mp)(x:Bv)(b:Bk)(ps:List RM)(a:Ask)(w:World)(h:MapP w 92 base (.pointer q) m)(hx:BkR w w.heap.size x b ps)(hiw:(Lit.int .i64 a.id).wf=true):
 Calls Tryz.prog 27 #[.pointer q,bkV x,askV a] w (BmOk w (doM m b a)):=by
 have HS:=Lib.hid (PD.start w q m base x b ps a h hx);have HIW:=Lib.hid hiw;clear h hx hiw;go_enter Tryz.func27,Tryz.ntmps27;go_upto_region 3 with fail
 try simp only[World.size_alloc,Nat.add_assoc,Nat.reduceAdd]
 obtain⟨X,hX⟩:∃u,((((w.alloc (.cells #[x.ds.v,x.os.v,x.pl.v] 42)).alloc (.cells #[.int .i64 a.kind,.int .i64 a.id,.int .i64 a.n,.int .i64 a.o.id,.int .i64 a.o.size,.int .i64 a.o.pick.place,.int .i64 a.o.pick.win.fr,.int .i64 a.o.pick.win.to,.int .i64 a.o.pick.serv,.int .i64 a.o.drop.place,.int .i64 a.o.drop.win.fr,.int .i64 a.o.drop.win.to,.int .i64 a.o.drop.serv,.int .i64 a.d.id,.int .i64 a.d.room,.int .i64 a.d.home,.int .i64 a.d.win.fr,.int .i64 a.d.win.to,.bool a.d.retired] 74)).alloc (.cells #[.slice none 0 0,.slice none 0 0,.slice none 0 0] 42)).alloc (.cells #[.slice none 0 0,.slice none 0 0,.slice none 0 0] 42))=u:=⟨_,rfl⟩;rw[hX]at HS;try rw[hX]
 clear hX;obtain⟨c0,c1,c2⟩:=HS.out.pc.arg.cells;have HAC:Hid (∀ i v,(askC a)[i]?=some v→X.cell? ⟨w.heap.size+1,i,none⟩=some v):=Lib.hid fun i v hv=>HS.out.ask.cell hv;have a0:X.cell? ⟨w.heap.size+1,0,none⟩=some (.int .i64 a.kind):=HAC.out 0 _ rfl;have a1:X.cell? ⟨w.heap.size+1,1,none⟩=some (.int .i64 a.id):=HAC.out 1 _ rfl;have a2:X.cell? ⟨w.heap.size+1,2,none⟩=some (.int .i64 a.n):=HAC.out 2 _ rfl;have a3:X.cell? ⟨w.heap.size+1,3,none⟩=some (.int .i64 a.o.id):=HAC.out 3 _ rfl;have a4:X.cell? ⟨w.heap.size+1,4,none⟩=some (.int .i64 a.o.size):=HAC.out 4 _ rfl;have a5:X.cell? ⟨w.heap.size+1,5,none⟩=some (.int .i64 a.o.pick.place):=HAC.out 5 _ rfl;have a6:X.cell? ⟨w.heap.size+1,6,none⟩=some (.int .i64 a.o.pick.win.fr):=HAC.out 6 _ rfl;have a7:X.cell? ⟨w.heap.size+1,7,none⟩=some (.int .i64 a.o.pick.win.to):=HAC.out 7 _ rfl;have a8:X.cell? ⟨w.heap.size+1,8,none⟩=some (.int .i64 a.o.pick.serv):=HAC.out 8 _ rfl;have a9:X.cell? ⟨w.heap.size+1,9,none⟩=some (.int .i64 a.o.drop.place):=HAC.out 9 _ rfl;have a10:X.cell? ⟨w.heap.size+1,10,none⟩=some (.int .i64 a.o.drop.win.fr):=HAC.out 10 _ rfl;have a11:X.cell? ⟨w.heap.size+1,11,none⟩=some (.int .i64 a.o.drop.win.to):=HAC.out 11 _ rfl;have a12:X.cell? ⟨w.heap.size+1,12,none⟩=some (.int .i64 a.o.drop.serv):=HAC.out 12 _ rfl;have a13:X.cell? ⟨w.heap.size+1,13,none⟩=some (.int .i64 a.d.id):=HAC.out 13 _ rfl;have a14:X.cell? ⟨w.heap.size+1,14,none⟩=some (.int .i64 a.d.room):=HAC.out 14 _ rfl;have a15:X.cell? ⟨w.heap.size+1,15,none⟩=some (.int .i64 a.d.home):=HAC.out 15 _ rfl;have a16:X.cell? ⟨w.heap.size+1,16,none⟩=some (.int .i64 a.d.win.fr):=HAC.out 16 _ rfl;have a17:X.cell? ⟨w.heap.size+1,17,none⟩=some (.int .i64 a.d.win.to):=HAC.out 17 _ rfl;have a18:X.cell? ⟨w.heap.size+1,18,none⟩=some (.bool a.d.retired):=HAC.out 18 _ rfl;obtain⟨v0,v1,v2⟩:=HS.out.var.cells;by_cases h1:a.kind=1
 ·rw[h1]at a0
  have HD:Hid (doM m b a=((b_d m b a.o a.n).1,0,(b_d m b a.o a.n).2)):=by show _=_;unfold doM;rw[if_pos h1]
  go_wp2_with fail
  refine(c_2 base q m x b ps a.o a.n _ (by exact HS.out.pc.mp) (by exact HS.out.pc.read)).mono ?_;rintro e w2 ⟨y,psy,rfl,hn⟩;have HS2:=Lib.hid (HS.out.next hn.old);have HBN:=Lib.hid (e_D (x:=y) (x':=y) HS.out.pc.old (Blk.lt HS.out.var) (Blk.lt HS.out.pc.res) hn (by omega) (by omega));have hvar2:=HS2.out.var;have hres2:BBox (put3 w2 (w.heap.size+3) y.ds.v y.os.v y.pl.v) (w.heap.size+2) 42 bv0:=((a_M w2 (w.heap.size+3) y).other _ (by omega)).trans HS2.out.pc.res;have HR2:=Lib.hid hres2;have HV2:=Lib.hid (a_t hvar2 y);clear a0 a1 a2 a3 a4 a5 a6 a7 a8 a9 a10 a11 a12 a13 a14 a15 a16 a17 a18 c0 c1 c2 v0 v1 v2;obtain⟨y0,y1,y2⟩:=hvar2.cells;have hff:=Blk.free hvar2;clear hn HS hvar2 hres2 HAC HIW;go_upto_region 16 with fail
  obtain⟨V,hV⟩:∃u,put3 w2 (w.heap.size+3) y.ds.v y.os.v y.pl.v=u:=⟨_,rfl⟩;have hV2:((w2.setCell ⟨w.heap.size+3,0,none⟩ (.slice y.ds.a y.ds.n y.ds.c)).setCell ⟨w.heap.size+3,1,none⟩ (.slice y.os.a y.os.n y.os.c)).setCell ⟨w.heap.size+3,2,none⟩ (.slice y.pl.a y.pl.n y.pl.c)=V:=hV;rw[hV]at HBN HR2 HV2;first|rw[hV2]|rw[hV]
  clear hV hV2 y0 y1 y2 hff HS2;obtain⟨q0,q1,q2⟩:=HV2.out;obtain⟨y0,y1,y2⟩:=HR2.out.cells;have hff:=Blk.free HR2.out;have HRS:=Lib.hid (a_t HR2.out y);go_wp2_with fail
  refine bodyPost_ret (v:=.tuple #[bkV y,.int .i64 0,.int .i64 (b_d m b a.o a.n).2]) ?_ rfl (by rw[HD.out];exact⟨y,psy,rfl,HBN.out⟩);obtain⟨r0,r1,r2⟩:=HRS.out;simp[results,Tryz.results27,go_sem,r0,r1,r2]
 by_cases h2:a.kind=2
 ·rw[h2]at a0
  have HD:Hid (doM m b a=((d_w m b a.id).1,0,(d_w m b a.id).2)):=by show _=_;unfold doM;rw[if_neg h1];rw[if_pos h2]
  go_wp2_with fail
  refine(g_r base q m x b ps a.id _ (by exact HS.out.pc.mp) (by exact HS.out.pc.read) HIW.out).mono ?_;rintro e w2 ⟨y,psy,rfl,hn⟩;have HS2:=Lib.hid (HS.out.next hn.old);have HBN:=Lib.hid (e_D (x:=y) (x':=y) HS.out.pc.old (Blk.lt HS.out.var) (Blk.lt HS.out.pc.res) hn (by omega) (by omega));have hvar2:=HS2.out.var;have hres2:BBox (put3 w2 (w.heap.size+3) y.ds.v y.os.v y.pl.v) (w.heap.size+2) 42 bv0:=((a_M w2 (w.heap.size+3) y).other _ (by omega)).trans HS2.out.pc.res;have HR2:=Lib.hid hres2;have HV2:=Lib.hid (a_t hvar2 y);clear a0 a1 a2 a3 a4 a5 a6 a7 a8 a9 a10 a11 a12 a13 a14 a15 a16 a17 a18 c0 c1 c2 v0 v1 v2;obtain⟨y0,y1,y2⟩:=hvar2.cells;have hff:=Blk.free hvar2;clear hn HS hvar2 hres2 HAC HIW;go_upto_region 16 with fail
  obtain⟨V,hV⟩:∃u,put3 w2 (w.heap.size+3) y.ds.v y.os.v y.pl.v=u:=⟨_,rfl⟩;have hV2:((w2.setCell ⟨w.heap.size+3,0,none⟩ (.slice y.ds.a y.ds.n y.ds.c)).setCell ⟨w.heap.size+3,1,none⟩ (.slice y.os.a y.os.n y.os.c)).setCell ⟨w.heap.size+3,2,none⟩ (.slice y.pl.a y.pl.n y.pl.c)=V:=hV;rw[hV]at HBN HR2 HV2;first|rw[hV2]|rw[hV]
  clear hV hV2 y0 y1 y2 hff HS2;obtain⟨q0,q1,q2⟩:=HV2.out;obtain⟨y0,y1,y2⟩:=HR2.out.cells;have hff:=Blk.free HR2.out;have HRS:=Lib.hid (a_t HR2.out y);go_wp2_with fail
  refine bodyPost_ret (v:=.tuple #[bkV y,.int .i64 0,.int .i64 (d_w m b a.id).2]) ?_ rfl (by rw[HD.out];exact⟨y,psy,rfl,HBN.out⟩);obtain⟨r0,r1,r2⟩:=HRS.out;simp[results,Tryz.results27,go_sem,r0,r1,r2]
 by_cases h3:a.kind=3
 ·rw[h3]at a0
  have HD:Hid (doM m b a=((c_M m b a.d).1,0,(c_M m b a.d).2)):=by show _=_;unfold doM;rw[if_neg h1];rw[if_neg h2];rw[if_pos h3]
  go_wp2_with fail
  refine(j_l base q m x b ps a.d _ (by exact HS.out.pc.mp) (by exact HS.out.pc.read)).mono ?_;rintro e w2 ⟨y,psy,rfl,hn⟩;have HS2:=Lib.hid (HS.out.next hn.old);have HBN:=Lib.hid (e_D (x:=y) (x':=y) HS.out.pc.old (Blk.lt HS.out.var) (Blk.lt HS.out.pc.res) hn (by omega) (by omega));have hvar2:=HS2.out.var;have hres2:BBox (put3 w2 (w.heap.size+3) y.ds.v y.os.v y.pl.v) (w.heap.size+2) 42 bv0:=((a_M w2 (w.heap.size+3) y).other _ (by omega)).trans HS2.out.pc.res;have HR2:=Lib.hid hres2;have HV2:=Lib.hid (a_t hvar2 y);clear a0 a1 a2 a3 a4 a5 a6 a7 a8 a9 a10 a11 a12 a13 a14 a15 a16 a17 a18 c0 c1 c2 v0 v1 v2;obtain⟨y0,y1,y2⟩:=hvar2.cells;have hff:=Blk.free hvar2;clear hn HS hvar2 hres2 HAC HIW;go_upto_region 16 with fail
  obtain⟨V,hV⟩:∃u,put3 w2 (w.heap.size+3) y.ds.v y.os.v y.pl.v=u:=⟨_,rfl⟩;have hV2:((w2.setCell ⟨w.heap.size+3,0,none⟩ (.slice y.ds.a y.ds.n y.ds.c)).setCell ⟨w.heap.size+3,1,none⟩ (.slice y.os.a y.os.n y.os.c)).setCell ⟨w.heap.size+3,2,none⟩ (.slice y.pl.a y.pl.n y.pl.c)=V:=hV;rw[hV]at HBN HR2 HV2;first|rw[hV2]|rw[hV]
  clear hV hV2 y0 y1 y2 hff HS2;obtain⟨q0,q1,q2⟩:=HV2.out;obtain⟨y0,y1,y2⟩:=HR2.out.cells;have hff:=Blk.free HR2.out;have HRS:=Lib.hid (a_t HR2.out y);go_wp2_with fail
  refine bodyPost_ret (v:=.tuple #[bkV y,.int .i64 0,.int .i64 (c_M m b a.d).2]) ?_ rfl (by rw[HD.out];exact⟨y,psy,rfl,HBN.out⟩);obtain⟨r0,r1,r2⟩:=HRS.out;simp[results,Tryz.results27,go_sem,r0,r1,r2]
 by_cases h4:a.kind=4
 ·rw[h4]at a0
  have HD:Hid (doM m b a=((a_W m b a.id a.n).1,0,(a_W m b a.id a.n).2)):=by show _=_;unfold doM;rw[if_neg h1];rw[if_neg h2];rw[if_neg h3];rw[if_pos h4]
  go_wp2_with fail
  refine(e_d base q m x b ps a.id a.n _ (by exact HS.out.pc.mp) (by exact HS.out.pc.read)).mono ?_;rintro e w2 ⟨y,psy,rfl,hn⟩;have HS2:=Lib.hid (HS.out.next hn.old);have HBN:=Lib.hid (e_D (x:=y) (x':=y) HS.out.pc.old (Blk.lt HS.out.var) (Blk.lt HS.out.pc.res) hn (by omega) (by omega));have hvar2:=HS2.out.var;have hres2:BBox (put3 w2 (w.heap.size+3) y.ds.v y.os.v y.pl.v) (w.heap.size+2) 42 bv0:=((a_M w2 (w.heap.size+3) y).other _ (by omega)).trans HS2.out.pc.res;have HR2:=Lib.hid hres2;have HV2:=Lib.hid (a_t hvar2 y);clear a0 a1 a2 a3 a4 a5 a6 a7 a8 a9 a10 a11 a12 a13 a14 a15 a16 a17 a18 c0 c1 c2 v0 v1 v2;obtain⟨y0,y1,y2⟩:=hvar2.cells;have hff:=Blk.free hvar2;clear hn HS hvar2 hres2 HAC HIW;go_upto_region 16 with fail
  obtain⟨V,hV⟩:∃u,put3 w2 (w.heap.size+3) y.ds.v y.os.v y.pl.v=u:=⟨_,rfl⟩;have hV2:((w2.setCell ⟨w.heap.size+3,0,none⟩ (.slice y.ds.a y.ds.n y.ds.c)).setCell ⟨w.heap.size+3,1,none⟩ (.slice y.os.a y.os.n y.os.c)).setCell ⟨w.heap.size+3,2,none⟩ (.slice y.pl.a y.pl.n y.pl.c)=V:=hV;rw[hV]at HBN HR2 HV2;first|rw[hV2]|rw[hV]
  clear hV hV2 y0 y1 y2 hff HS2;obtain⟨q0,q1,q2⟩:=HV2.out;obtain⟨y0,y1,y2⟩:=HR2.out.cells;have hff:=Blk.free HR2.out;have HRS:=Lib.hid (a_t HR2.out y);go_wp2_with fail
  refine bodyPost_ret (v:=.tuple #[bkV y,.int .i64 0,.int .i64 (a_W m b a.id a.n).2]) ?_ rfl (by rw[HD.out];exact⟨y,psy,rfl,HBN.out⟩);obtain⟨r0,r1,r2⟩:=HRS.out;simp[results,Tryz.results27,go_sem,r0,r1,r2]
 by_cases h5:a.kind=5
 ·rw[h5]at a0
  have HD:Hid (doM m b a=((b_N m b a.id a.n).1,0,(b_N m b a.id a.n).2)):=by show _=_;unfold doM;rw[if_neg h1];rw[if_neg h2];rw[if_neg h3];rw[if_neg h4];rw[if_pos h5]
  go_wp2_with fail
  refine(e_X base q m x b ps a.id a.n _ (by exact HS.out.pc.mp) (by exact HS.out.pc.read)).mono ?_;rintro e w2 ⟨y,psy,rfl,hn⟩;have HS2:=Lib.hid (HS.out.next hn.old);have HBN:=Lib.hid (e_D (x:=y) (x':=y) HS.out.pc.old (Blk.lt HS.out.var) (Blk.lt HS.out.pc.res) hn (by omega) (by omega));have hvar2:=HS2.out.var;have hres2:BBox (put3 w2 (w.heap.size+3) y.ds.v y.os.v y.pl.v) (w.heap.size+2) 42 bv0:=((a_M w2 (w.heap.size+3) y).other _ (by omega)).trans HS2.out.pc.res;have HR2:=Lib.hid hres2;have HV2:=Lib.hid (a_t hvar2 y);clear a0 a1 a2 a3 a4 a5 a6 a7 a8 a9 a10 a11 a12 a13 a14 a15 a16 a17 a18 c0 c1 c2 v0 v1 v2;obtain⟨y0,y1,y2⟩:=hvar2.cells;have hff:=Blk.free hvar2;clear hn HS hvar2 hres2 HAC HIW;go_upto_region 16 with fail
  obtain⟨V,hV⟩:∃u,put3 w2 (w.heap.size+3) y.ds.v y.os.v y.pl.v=u:=⟨_,rfl⟩;have hV2:((w2.setCell ⟨w.heap.size+3,0,none⟩ (.slice y.ds.a y.ds.n y.ds.c)).setCell ⟨w.heap.size+3,1,none⟩ (.slice y.os.a y.os.n y.os.c)).setCell ⟨w.heap.size+3,2,none⟩ (.slice y.pl.a y.pl.n y.pl.c)=V:=hV;rw[hV]at HBN HR2 HV2;first|rw[hV2]|rw[hV]
  clear hV hV2 y0 y1 y2 hff HS2;obtain⟨q0,q1,q2⟩:=HV2.out;obtain⟨y0,y1,y2⟩:=HR2.out.cells;have hff:=Blk.free HR2.out;have HRS:=Lib.hid (a_t HR2.out y);go_wp2_with fail
  refine bodyPost_ret (v:=.tuple #[bkV y,.int .i64 0,.int .i64 (b_N m b a.id a.n).2]) ?_ rfl (by rw[HD.out];exact⟨y,psy,rfl,HBN.out⟩);obtain⟨r0,r1,r2⟩:=HRS.out;simp[results,Tryz.results27,go_sem,r0,r1,r2]
 by_cases h6:a.kind=6
 ·rw[h6]at a0
  have HD:Hid (doM m b a=c_N m b a.n):=by show _=_;unfold doM;rw[if_neg h1,if_neg h2,if_neg h3,if_neg h4,if_neg h5,if_pos h6]
  go_wp2_with fail
  refine(j_m base q m x b ps a.n _ (by exact HS.out.pc.mp) (by exact HS.out.pc.read)).mono ?_;rintro e w2 ⟨y,psy,rfl,hn⟩;have HS2:=Lib.hid (HS.out.next hn.old);have HBN:=Lib.hid (c_H (x:=y) HS.out.pc.old HS.out.pc.res hn (by omega));have HRS:=Lib.hid (a_t HS2.out.pc.res y);obtain⟨y0,y1,y2⟩:=HS2.out.pc.res.cells;have hff:=Blk.free HS2.out.pc.res;clear hn HS HAC HIW a0 a1 a2 a3 a4 a5 a6 a7 a8 a9 a10 a11 a12 a13 a14 a15 a16 a17 a18 c0 c1 c2 v0 v1 v2;go_wp2_with fail
  refine bodyPost_ret (v:=.tuple #[bkV y,.int .i64 (c_N m b a.n).2.1,.int .i64 (c_N m b a.n).2.2]) ?_ rfl (by rw[HD.out];exact⟨y,psy,rfl,HBN.out⟩);obtain⟨r0,r1,r2⟩:=HRS.out;simp[results,Tryz.results27,go_sem,r0,r1,r2]
 have HD:Hid ((bk0,(0:Int),(1:Int))=doM m b a):=by show _=_;unfold doM;rw[if_neg h1,if_neg h2,if_neg h3,if_neg h4,if_neg h5,if_neg h6]
 have e1:(a.kind==1)=false:=by simpa using h1
 have e2:(a.kind==2)=false:=by simpa using h2
 have e3:(a.kind==3)=false:=by simpa using h3
 have e4:(a.kind==4)=false:=by simpa using h4
 have e5:(a.kind==5)=false:=by simpa using h5
 have e6:(a.kind==6)=false:=by simpa using h6
 obtain⟨y0,y1,y2⟩:=HS.out.pc.res.cells;have hff:=Blk.free HS.out.pc.res;have HRS:=Lib.hid (a_i HS.out.pc.res);have HBR:=Lib.hid (a_r (g:=w.heap.size+2) HS.out.pc.old (by omega));go_wp2_with fail
 refine bodyPost_ret (v:=.tuple #[.agg #[.slice none 0 0,.slice none 0 0,.slice none 0 0],.int .i64 0,.int .i64 1]) ?_ rfl (f_D HD.out HBR.out);obtain⟨q0,q1,q2⟩:=HRS.out;simp[results,Tryz.results27,go_sem,q0,q1,q2]
end Pln
end Go.Proofs.YtkpnmpjnpcjohaaGreat
