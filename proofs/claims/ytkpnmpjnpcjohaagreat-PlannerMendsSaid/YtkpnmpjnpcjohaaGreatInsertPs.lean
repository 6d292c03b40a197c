import Derived.Test.YtkpnmpjnpcjohaaGreatInsertRs
import Derived.RangeFuncNested
import Derived.RangeFuncLeaves
import Derived.Shelf.Abstract
import Derived.OwnWalkIn
import Derived.TacticsInMore
import Derived.LoopNIn
import Derived.LoopIn
import Derived.Test.YtkpnmpjnpcjohaaGreatRoutePCost
import Derived.Sort.CutIn
import Derived.Test.YtkpnmpjnpcjohaaGreatCertMakesP
set_option linter.unusedSimpArgs false
set_option linter.unusedVariables false
set_option maxHeartbeats 16000000
set_option maxRecDepth 100000
namespace Go.Proofs.YtkpnmpjnpcjohaaGreat
open ChangeShapes WideShapes ChangeAt RowKit Mem GeoMath FleetMath PlanMath CertMath InsertMath Rec Geo Span Deal Route Plan Cert
namespace Insert
theorem o_B(p:Drv)(b:Nat)(x:Int)(w:World)(hb:Blk w b 3 [.int .i64 x]):
 Calls Tryz.prog 214 #[drvV p,.pointer (some ⟨b,0,none⟩)] w (fun e w'=>e=.returned (.bool (p.id==x))∧Below w.heap.size w w'):=by
 have h1:=hb.below ((Below.refl _ _).alloc (Nat.le_refl _) (.cells #[.int .i64 p.id,.int .i64 p.room,.int .i64 p.home,.int .i64 p.win.fr,.int .i64 p.win.to,.bool p.retired] 33)) hb.lt;have c0:=h1.cell (i:=0) rfl;clear h1 hb;go_enter Tryz.func214,Tryz.ntmps214;go_wp2
 go_ret;exact⟨rfl,(Below.refl _ _).alloc (Nat.le_refl _) _⟩
theorem o_C(A:Option Addr)(n c:Nat)(l:List Drv)(b:Nat)(x0:Int)(w:World)(hl:Drvs w w.heap.size A n l)(hb:Blk w b 3 [.int .i64 x0]):
 Calls Tryz.prog 197 #[.slice A n c,.func (.func 214) #[] #[.pointer (some ⟨b,0,none⟩)]] w (fun e w'=>e=.returned (.int .i64 (b_J l x0 0))∧Below w.heap.size w w'):=by
 have hm:=Recs.le hl;have HI:=Lib.hid hl;have HL:=Lib.hid hl.length;have HBX:=Lib.hid hb;clear hl hb;go_enter Tryz.func197,Tryz.ntmps197;go_wp2_with fail
 go_loopw [8] (fun iv wr=>∃k:Nat,k≤n∧iv=.int .i64 k∧Hid (Below w.heap.size w wr)∧Hid (b_J (l.drop k) x0 k=b_J l x0 0)) (fun iv _=>n-(intOf iv).toNat)
 case atStart=>exact⟨0,Nat.zero_le _,rfl,Below.refl _ _,Lib.hid rfl⟩
 case round=>
  obtain⟨k,hk,rfl,HB,HK⟩:=hrel;by_cases hlt:k<n
  ·obtain⟨bb,off,x,rfl,hbb,ho,hdr,c0,c1,c2,c3,c4,c5⟩:=Drvs.at_ (Recs.keep HI.out HB.out) hlt
   have HK1:=HK.out;rw[hdr,d_J]at HK1;have HBW:Hid (Blk wr b 3 [.int .i64 x0]):=HBX.out.below HB.out HBX.out.lt;have HC:=Lib.hid (o_B x b x0);by_cases hid:x.id=x0
   ·rw[if_pos hid]at HK1
    have HF:=Lib.hid HK1;have e1:(x.id==x0)=true:=by simpa using hid
    rw[e1]at HC;clear hid HK HK1 ho hdr;go_wp2_with fail
    refine(HC.out _ (by exact HBW.out)).mono ?_;rintro e w' ⟨rfl,hb2⟩;have HB2:=Lib.hid (HB.out.trans (hb2.mono HB.out.size));clear hb2 c0 c1 c2 c3 c4 c5;go_wp2_with fail
    go_ret;exact⟨a_5 (by rw[HF.out]),HB2.out⟩
   ·rw[if_neg hid]at HK1
    have HF:=Lib.hid HK1;have e1:(x.id==x0)=false:=by simpa using hid
    rw[e1]at HC;clear hid HK HK1 ho hdr;go_wp2_with fail
    refine(HC.out _ (by exact HBW.out)).mono ?_;rintro e w' ⟨rfl,hb2⟩;have HB2:=Lib.hid (HB.out.trans (hb2.mono HB.out.size));clear hb2 c0 c1 c2 c3 c4 c5;go_wp2_with fail
    go_roundw
    case rel=>exact⟨k+1,by omega,by go_num,HB2,HF⟩
    case measure=>simp[intOf];omega
  ·have HF:Hid (-1=b_J l x0 0):=by
    have h:=HK.out;rw[List.drop_of_length_le (by have:=HL.out;omega)]at h;exact h
   clear HK;go_wp2_with fail
   go_ret;exact⟨a_5 (by rw[← HF.out]),HB.out⟩
theorem o_D(A:Option Addr)(n c:Nat)(l:List Drv)(id:Int)(d:Drv)(w:World)(hl:Drvs w w.heap.size A n l)(hr:a_o l id=some d):
 Calls Tryz.prog 151 #[.slice A n c,.int .i64 id] w (a_y w (drvV d)):=by
 have hm:=Recs.le hl;have HI:=Lib.hid hl;have hlen:=hl.length
 obtain⟨i,d2,hi,h2,hiv⟩:∃(i:Nat) (d2:Drv),l[i]?=some d2∧d2=d∧b_J l id 0=(i:Int):=by
  rcases f_x l id with⟨h1,_⟩|⟨i,d2,h1,h2,h3⟩
  ·rw[hr]at h1;cases h1
  ·rw[hr]at h2;injection h2 with h2;exact⟨i,d2,h1,h2.symm,h3⟩
 subst h2;have HIV:=Lib.hid hiv;clear hl hr hiv;have HB0:Hid (Below w.heap.size w ((w.alloc (.cells #[.int .i64 id] 3)).alloc (.cells #[.int .i64 0,.int .i64 0,.int .i64 0,.int .i64 0,.int .i64 0,.bool false] 33))):=((Below.refl _ _).alloc (Nat.le_refl _) _).alloc (by simp) _;have HX0:Hid (Blk ((w.alloc (.cells #[.int .i64 id] 3)).alloc (.cells #[.int .i64 0,.int .i64 0,.int .i64 0,.int .i64 0,.int .i64 0,.bool false] 33)) w.heap.size 3 [.int .i64 id]):=Blk.below (Blk.new w 3 [.int .i64 id]) ((Below.refl _ _).alloc (Nat.le_refl _) _) (Blk.new w 3 [.int .i64 id]).lt
 have HY0:Hid (DBox ((w.alloc (.cells #[.int .i64 id] 3)).alloc (.cells #[.int .i64 0,.int .i64 0,.int .i64 0,.int .i64 0,.int .i64 0,.bool false] 33)) (w.heap.size+1) drv0):=by
  have h1:=Blk.new (w.alloc (.cells #[.int .i64 id] 3)) 33 [.int .i64 0,.int .i64 0,.int .i64 0,.int .i64 0,.int .i64 0,.bool false];rw[World.size_alloc]at h1;exact h1
 go_enter Tryz.func151,Tryz.ntmps151;have hmf:∀(fn:Fn) (first cap:Array Value) (w:World),(Instr.makeFunc fn first cap).run Tryz.prog w=.ok (.func fn first cap) w:=fun _ _ _ _=>rfl;go_wp2_with fail
 refine(o_C A n c l w.heap.size id _ (by exact Recs.more (Recs.keep HI.out HB0.out) HB0.out.size) (by exact HX0.out)).mono ?_;rintro e w1 ⟨rfl,hb⟩;rw[HIV.out];have HB1:=Lib.hid (HB0.out.trans (hb.mono HB0.out.size));have HY1:Hid (DBox w1 (w.heap.size+1) drv0):=HY0.out.below hb;clear hb HB0 HX0 HY0 HIV;have hcs:=a_c (w.heap.size+1);have hfs:=a_d;have hff:=Blk.free HY1.out;obtain⟨x0,x1,x2,x3,x4,x5⟩:=HY1.out.cells;obtain⟨b,off,d3,rfl,hbb,hd3,hdr,c0,c1,c2,c3,c4,c5⟩:=Drvs.at_ (Recs.keep HI.out HB1.out) (i:=i) (by have:=(List.getElem?_eq_some_iff.1 hi).1;omega);have hin:(i:Int)<(n:Int):=by have:=(List.getElem?_eq_some_iff.1 hi).1;omega
 rw[hi]at hd3;injection hd3 with hd3;subst hd3;have HRS:=Lib.hid (DBox.cells (c_j HY1.out d2));have HBR:=Lib.hid (b_D HB1.out (Nat.le_succ w.heap.size) d2);clear hdr hi hmf;go_wp2_with fail
 refine bodyPost_ret (v:=drvV d2) ?_ rfl ⟨rfl,HBR.out⟩;obtain⟨r0,r1,r2,r3,r4,r5⟩:=HRS.out;simp[results,Tryz.results151,go_sem,r0,r1,r2,r3,r4,r5]
def g_M:List FleetMath.Ord→Int→Nat→Int
 |[],_,_=>-1
 |x::r,id,k=>if x.id=id then(k:Int)else g_M r id (k+1)
theorem h_o(x:FleetMath.Ord)(l:List FleetMath.Ord)(id:Int)(k:Nat):g_M (x::l) id k=if x.id=id then(k:Int)else g_M l id (k+1):=rfl
theorem o_E(l:List FleetMath.Ord)(id:Int)(k:Nat):0≤g_M l id k↔(find l id).isSome=true:=by
 induction l generalizing k with
 |nil=>constructor<;>intro h<;>simp[g_M,find]at h
 |cons x r ih=>
  rw[h_o];by_cases h:x.id=id
  ·rw[if_pos h];constructor<;>intro _<;>simp[find,h]
  ·rw[if_neg h,ih (k+1)];unfold find;rw[List.find?_cons,decide_eq_false h]
theorem o_F(p:FleetMath.Ord)(b:Nat)(o:FleetMath.Ord)(w:World)(hb:OBox w b o):
 Calls Tryz.prog 211 #[ordV p,.pointer (some ⟨b,0,none⟩)] w (fun e w'=>e=.returned (.bool (p.id==o.id))∧Below w.heap.size w w'):=by
 have h1:=hb.below ((Below.refl _ _).alloc (Nat.le_refl _) (.cells #[.int .i64 p.id,.int .i64 p.size,.int .i64 p.pick.place,.int .i64 p.pick.win.fr,.int .i64 p.pick.win.to,.int .i64 p.pick.serv,.int .i64 p.drop.place,.int .i64 p.drop.win.fr,.int .i64 p.drop.win.to,.int .i64 p.drop.serv] 31));obtain⟨c0,-⟩:=h1.cells;clear h1 hb;go_enter Tryz.func211,Tryz.ntmps211;go_wp2
 go_ret;exact⟨rfl,(Below.refl _ _).alloc (Nat.le_refl _) _⟩
theorem o_G(A:Option Addr)(n c:Nat)(l:List FleetMath.Ord)(b:Nat)(o:FleetMath.Ord)(w:World)(hl:Ords w w.heap.size A n l)(hb:OBox w b o):
 Calls Tryz.prog 228 #[.slice A n c,.func (.func 211) #[] #[.pointer (some ⟨b,0,none⟩)]] w (fun e w'=>e=.returned (.int .i64 (g_M l o.id 0))∧Below w.heap.size w w'):=by
 have hm:=Recs.le hl;have HI:=Lib.hid hl;have HL:=Lib.hid hl.length;have HBX:=Lib.hid hb;clear hl hb;go_enter Tryz.func228,Tryz.ntmps228;go_wp2_with fail
 go_loopw [8] (fun iv wr=>∃k:Nat,k≤n∧iv=.int .i64 k∧Hid (Below w.heap.size w wr)∧Hid (g_M (l.drop k) o.id k=g_M l o.id 0)) (fun iv _=>n-(intOf iv).toNat)
 case atStart=>exact⟨0,Nat.zero_le _,rfl,Below.refl _ _,Lib.hid rfl⟩
 case round=>
  obtain⟨k,hk,rfl,HB,HK⟩:=hrel;by_cases hlt:k<n
  ·obtain⟨bb,off,x,rfl,hbb,ho,hdr,c0,c1,c2,c3,c4,c5,c6,c7,c8,c9⟩:=Ords.at_ (Recs.keep HI.out HB.out) hlt
   have HK1:=HK.out;rw[hdr,h_o]at HK1;have HBW:Hid (OBox wr b o):=HBX.out.below HB.out;have HC:=Lib.hid (o_F x b o);by_cases hid:x.id=o.id
   ·rw[if_pos hid]at HK1
    have HF:=Lib.hid HK1;have e1:(x.id==o.id)=true:=by simpa using hid
    rw[e1]at HC;clear hid HK HK1 ho hdr;go_wp2_with fail
    refine(HC.out _ (by exact HBW.out)).mono ?_;rintro e w' ⟨rfl,hb2⟩;have HB2:=Lib.hid (HB.out.trans (hb2.mono HB.out.size));clear hb2 c0 c1 c2 c3 c4 c5 c6 c7 c8 c9;go_wp2_with fail
    go_ret;exact⟨a_5 (by rw[HF.out]),HB2.out⟩
   ·rw[if_neg hid]at HK1
    have HF:=Lib.hid HK1;have e1:(x.id==o.id)=false:=by simpa using hid
    rw[e1]at HC;clear hid HK HK1 ho hdr;go_wp2_with fail
    refine(HC.out _ (by exact HBW.out)).mono ?_;rintro e w' ⟨rfl,hb2⟩;have HB2:=Lib.hid (HB.out.trans (hb2.mono HB.out.size));clear hb2 c0 c1 c2 c3 c4 c5 c6 c7 c8 c9;go_wp2_with fail
    go_roundw
    case rel=>exact⟨k+1,by omega,by go_num,HB2,HF⟩
    case measure=>simp[intOf];omega
  ·have HF:Hid (-1=g_M l o.id 0):=by
    have h:=HK.out;rw[List.drop_of_length_le (by have:=HL.out;omega)]at h;exact h
   clear HK;go_wp2_with fail
   go_ret;exact⟨a_5 (by rw[← HF.out]),HB.out⟩
theorem o_H(A:Option Addr)(n c:Nat)(l:List FleetMath.Ord)(b:Nat)(o:FleetMath.Ord)(t:Bool)(w:World)(hl:Ords w w.heap.size A n l)(hb:OBox w b o)(ht:(find l o.id).isSome=t):
 Calls Tryz.prog 210 #[.slice A n c,.func (.func 211) #[] #[.pointer (some ⟨b,0,none⟩)]] w (a_y w (.bool t)):=by
 have HC:=Lib.hid (o_G A n c l b o w hl hb);have hi:=o_E l o.id 0;obtain⟨iv,hiv⟩:∃v,g_M l o.id 0=v:=⟨_,rfl⟩;rw[hiv]at hi HC;rw[ht]at hi;clear hl hb ht hiv;go_enter Tryz.func210,Tryz.ntmps210;go_wp2_with fail
 refine HC.out.mono ?_;rintro e w1 ⟨rfl,hb1⟩;have HB1:=Lib.hid hb1;clear hb1 HC;cases t with
 |true=>
  have h0:0≤iv:=hi.2 rfl;clear hi;go_wp2_with fail
  go_ret;exact⟨by first|rfl|simp[h0],HB1.out⟩
 |false=>
  have h0:¬0≤iv:=fun h=>by have:=hi.1 h;cases this
  clear hi;go_wp2_with fail
  go_ret;exact⟨by first|rfl|simp[h0],HB1.out⟩
def Named(s:Option Sp4):Prop:=∀z,s=some z→z.drv≠0
theorem k_t(s:Option Sp4)(y:Sp4)(w:World)(hs:Named s):Calls Tryz.prog 152 #[sp4V (s.getD sp0),sp4V y] w (a_y w (sp4V ((a_u s (some y)).getD sp0))):=by
 obtain⟨z,hz⟩:∃z,s.getD sp0=z:=⟨_,rfl⟩;obtain⟨r,hr⟩:∃r,(a_u s (some y)).getD sp0=r:=⟨_,rfl⟩;rw[hz,hr];have HR:=Lib.hid hr;have HZ:=Lib.hid hz;have HS:=Lib.hid hs;clear hz hr hs;have HB0:Hid (Below w.heap.size w (((w.alloc (.cells #[.int .i64 z.drv,.int .i64 z.pick,.int .i64 z.drop,.int .i64 z.cost] 150)).alloc (.cells #[.int .i64 y.drv,.int .i64 y.pick,.int .i64 y.drop,.int .i64 y.cost] 150)).alloc (.cells #[.int .i64 0,.int .i64 0,.int .i64 0,.int .i64 0] 150))):=(((Below.refl _ _).alloc (Nat.le_refl _) _).alloc (by simp) _).alloc (by simp;omega) _;have hz0:S4Box (w.alloc (.cells #[.int .i64 z.drv,.int .i64 z.pick,.int .i64 z.drop,.int .i64 z.cost] 150)) w.heap.size z:=Blk.new w _ _
 have hy0:S4Box ((w.alloc (.cells #[.int .i64 z.drv,.int .i64 z.pick,.int .i64 z.drop,.int .i64 z.cost] 150)).alloc (.cells #[.int .i64 y.drv,.int .i64 y.pick,.int .i64 y.drop,.int .i64 y.cost] 150)) (w.heap.size+1) y:=by
  have h1:=Blk.new (w.alloc (.cells #[.int .i64 z.drv,.int .i64 z.pick,.int .i64 z.drop,.int .i64 z.cost] 150)) 150 [.int .i64 y.drv,.int .i64 y.pick,.int .i64 y.drop,.int .i64 y.cost];rw[World.size_alloc]at h1;exact h1
 have hx0:S4Box (((w.alloc (.cells #[.int .i64 z.drv,.int .i64 z.pick,.int .i64 z.drop,.int .i64 z.cost] 150)).alloc (.cells #[.int .i64 y.drv,.int .i64 y.pick,.int .i64 y.drop,.int .i64 y.cost] 150)).alloc (.cells #[.int .i64 0,.int .i64 0,.int .i64 0,.int .i64 0] 150)) (w.heap.size+2) sp0:=by
  have h1:=Blk.new ((w.alloc (.cells #[.int .i64 z.drv,.int .i64 z.pick,.int .i64 z.drop,.int .i64 z.cost] 150)).alloc (.cells #[.int .i64 y.drv,.int .i64 y.pick,.int .i64 y.drop,.int .i64 y.cost] 150)) 150 [.int .i64 0,.int .i64 0,.int .i64 0,.int .i64 0];rw[World.size_alloc,World.size_alloc]at h1;exact h1
 have b0:∀(u:World) (ob:Obj),Below u.heap.size u (u.alloc ob):=fun u ob=>(Below.refl _ _).alloc (Nat.le_refl _) _;have HZ0:Hid (S4Box (((w.alloc (.cells #[.int .i64 z.drv,.int .i64 z.pick,.int .i64 z.drop,.int .i64 z.cost] 150)).alloc (.cells #[.int .i64 y.drv,.int .i64 y.pick,.int .i64 y.drop,.int .i64 y.cost] 150)).alloc (.cells #[.int .i64 0,.int .i64 0,.int .i64 0,.int .i64 0] 150)) w.heap.size z):=Blk.below (Blk.below hz0 (b0 _ _) hz0.lt) (b0 _ _) (Blk.below hz0 (b0 _ _) hz0.lt).lt;have HY0:Hid (S4Box (((w.alloc (.cells #[.int .i64 z.drv,.int .i64 z.pick,.int .i64 z.drop,.int .i64 z.cost] 150)).alloc (.cells #[.int .i64 y.drv,.int .i64 y.pick,.int .i64 y.drop,.int .i64 y.cost] 150)).alloc (.cells #[.int .i64 0,.int .i64 0,.int .i64 0,.int .i64 0] 150)) (w.heap.size+1) y):=Blk.below hy0 (b0 _ _) hy0.lt;have HX0:=Lib.hid hx0;clear hz0 hy0 hx0 b0;go_enter Tryz.func152,Tryz.ntmps152;go_upto_region 1 with fail
 obtain⟨u0,hu0⟩:∃u,(((w.alloc (.cells #[.int .i64 z.drv,.int .i64 z.pick,.int .i64 z.drop,.int .i64 z.cost] 150)).alloc (.cells #[.int .i64 y.drv,.int .i64 y.pick,.int .i64 y.drop,.int .i64 y.cost] 150)).alloc (.cells #[.int .i64 0,.int .i64 0,.int .i64 0,.int .i64 0] 150))=u:=⟨_,rfl⟩;rw[hu0]at HB0 HZ0 HY0 HX0
 (try rw[hu0])
 clear hu0;obtain⟨z0,z1,z2,z3⟩:=HZ0.out.cells;obtain⟨y0,y1,y2,y3⟩:=HY0.out.cells;obtain⟨x0,x1,x2,x3⟩:=HX0.out.cells;have hcs:=a_c (w.heap.size+2);have hca:=b_7 (g:=w.heap.size+2) (h:=w.heap.size) (by omega);have hcb:=b_7 (g:=w.heap.size+2) (h:=w.heap.size+1) (by omega);have hfs:=a_d;have hff:=Blk.free HX0.out;cases s with
 |none=>
  have e1:z=sp0:=HZ.out.symm;subst e1;have HF:Hid (y=r):=HR.out;have HP:=Lib.hid (a_I HX0.out y).cells;have HB:=Lib.hid (b_Y HB0.out (by omega:w.heap.size≤w.heap.size+2) y);go_wp2_with fail
  refine bodyPost_ret (v:=sp4V y) ?_ rfl ⟨by rw[HF.out],by exact HB.out⟩;obtain⟨q0,q1,q2,q3⟩:=HP.out;simp[results,Tryz.results152,go_sem,q0,q1,q2,q3]
 |some z'=>
  have e1:z=z':=HZ.out.symm;subst e1;have n0:(z.drv==0)=false:=by simpa using HS.out z rfl
  by_cases hc:y.cost<z.cost
  ·have HF:Hid (y=r):=by have h:=HR.out;rw[a_X hc]at h;exact h
   have HP:=Lib.hid (a_I HX0.out y).cells;have HB:=Lib.hid (b_Y HB0.out (by omega:w.heap.size≤w.heap.size+2) y);go_wp2_with fail
   refine bodyPost_ret (v:=sp4V y) ?_ rfl ⟨by rw[HF.out],by exact HB.out⟩;obtain⟨q0,q1,q2,q3⟩:=HP.out;simp[results,Tryz.results152,go_sem,q0,q1,q2,q3]
  ·have HF:Hid (z=r):=by have h:=HR.out;rw[a_Y hc]at h;exact h
   have HP:=Lib.hid (a_I HX0.out z).cells;have HB:=Lib.hid (b_Y HB0.out (by omega:w.heap.size≤w.heap.size+2) z);go_wp2_with fail
   refine bodyPost_ret (v:=sp4V z) ?_ rfl ⟨by rw[HF.out],by exact HB.out⟩;obtain⟨q0,q1,q2,q3⟩:=HP.out;simp[results,Tryz.results152,go_sem,q0,q1,q2,q3]
theorem o_I(s:Srch)(w:World)(hs:Named s.1):Calls Tryz.prog 153 #[sp4V (s.1.getD sp0),.int .i64 ((s.2:Nat):Int)] w (a_y w (c_g (d_S s))):=by
 obtain⟨bt,k⟩:=s;obtain⟨z,hz⟩:∃z,bt.getD sp0=z:=⟨_,rfl⟩;obtain⟨r,hr⟩:∃r,d_S (bt,k)=r:=⟨_,rfl⟩;show Calls _ _ #[sp4V (bt.getD sp0),.int .i64 (k:Int)] _ _;rw[hz,hr];have HR:=Lib.hid hr;have HZ:=Lib.hid hz;have HS:=Lib.hid hs;clear hz hr hs;have HB0:Hid (Below w.heap.size w ((w.alloc (.cells #[.int .i64 z.drv,.int .i64 z.pick,.int .i64 z.drop,.int .i64 z.cost] 150)).alloc (.cells #[.int .i64 0,.int .i64 0,.int .i64 0,.int .i64 0] 150))):=((Below.refl _ _).alloc (Nat.le_refl _) _).alloc (by simp) _;have hz0:S4Box (w.alloc (.cells #[.int .i64 z.drv,.int .i64 z.pick,.int .i64 z.drop,.int .i64 z.cost] 150)) w.heap.size z:=Blk.new w _ _
 have hx0:S4Box ((w.alloc (.cells #[.int .i64 z.drv,.int .i64 z.pick,.int .i64 z.drop,.int .i64 z.cost] 150)).alloc (.cells #[.int .i64 0,.int .i64 0,.int .i64 0,.int .i64 0] 150)) (w.heap.size+1) sp0:=by
  have h1:=Blk.new (w.alloc (.cells #[.int .i64 z.drv,.int .i64 z.pick,.int .i64 z.drop,.int .i64 z.cost] 150)) 150 [.int .i64 0,.int .i64 0,.int .i64 0,.int .i64 0];rw[World.size_alloc]at h1;exact h1
 have b0:∀(u:World) (ob:Obj),Below u.heap.size u (u.alloc ob):=fun u ob=>(Below.refl _ _).alloc (Nat.le_refl _) _;have HZ0:Hid (S4Box ((w.alloc (.cells #[.int .i64 z.drv,.int .i64 z.pick,.int .i64 z.drop,.int .i64 z.cost] 150)).alloc (.cells #[.int .i64 0,.int .i64 0,.int .i64 0,.int .i64 0] 150)) w.heap.size z):=Blk.below hz0 (b0 _ _) hz0.lt;have HX0:=Lib.hid hx0;clear hz0 hx0 b0;go_enter Tryz.func153,Tryz.ntmps153;go_upto_region 1 with fail
 obtain⟨u0,hu0⟩:∃u,((w.alloc (.cells #[.int .i64 z.drv,.int .i64 z.pick,.int .i64 z.drop,.int .i64 z.cost] 150)).alloc (.cells #[.int .i64 0,.int .i64 0,.int .i64 0,.int .i64 0] 150))=u:=⟨_,rfl⟩;rw[hu0]at HB0 HZ0 HX0
 (try rw[hu0])
 clear hu0;obtain⟨z0,z1,z2,z3⟩:=HZ0.out.cells;obtain⟨x0,x1,x2,x3⟩:=HX0.out.cells;have hcs:=a_c (w.heap.size+1);have hca:=b_7 (g:=w.heap.size+1) (h:=w.heap.size) (by omega);have hfs:=a_d;have hff:=Blk.free HX0.out;have HP:=Lib.hid (a_I HX0.out z).cells;have HB:=Lib.hid (b_Y HB0.out (Nat.le_succ w.heap.size) z);cases bt with
 |none=>
  have e1:z=sp0:=HZ.out.symm;subst e1;have HF:Hid ((sp0,(k:Int),20)=r):=HR.out;go_wp2_with fail
  refine bodyPost_ret (v:=c_g (sp0,(k:Int),20)) ?_ rfl ⟨by rw[HF.out],by exact HB.out⟩;obtain⟨q0,q1,q2,q3⟩:=HP.out;simp[results,Tryz.results153,go_sem,q0,q1,q2,q3]
 |some z'=>
  have e1:z=z':=HZ.out.symm;subst e1;have n0:(z.drv==0)=false:=by simpa using HS.out z rfl
  have HF:Hid ((z,(k:Int),0)=r):=HR.out;go_wp2_with fail
  refine bodyPost_ret (v:=c_g (z,(k:Int),0)) ?_ rfl ⟨by rw[HF.out],by exact HB.out⟩;obtain⟨q0,q1,q2,q3⟩:=HP.out;simp[results,Tryz.results153,go_sem,q0,q1,q2,q3]
def askM(m:Option Mp)(os:List FleetMath.Ord)(o:FleetMath.Ord)(b:Int):Bool:=decide (ordE m o=0) && (!(find os o.id).isSome && (decide (0≤b) && decide (b≤100000)))
theorem f_V(base:Nat)(pv:Value)(m:Option Mp)(A:Option Addr)(n c:Nat)(os:List FleetMath.Ord)(o:FleetMath.Ord)(b:Int)(w:World)(h:MapP w 92 base pv m)(ho:Ords w w.heap.size A n os):
 Calls Tryz.prog 149 #[pv,.slice A n c,ordV o,.int .i64 b] w (a_y w (.bool (askM m os o b))):=by
 have HM:=Lib.hid h;have HO:=Lib.hid ho;obtain⟨e0,he0⟩:∃z,ordE m o=z:=⟨_,rfl⟩;obtain⟨t,ht⟩:∃t,(find os o.id).isSome=t:=⟨_,rfl⟩;have HE:=Lib.hid he0;have HT:=Lib.hid ht;obtain⟨r,hr⟩:∃r,askM m os o b=r:=⟨_,rfl⟩
 have HR:Hid ((decide (e0=0) && (!t && (decide (0≤b) && decide (b≤100000))))=r):=by
  show _=_;rw[← hr,askM,he0,ht]
 rw[hr];clear h ho he0 ht hr;have HB0:Hid (Below w.heap.size w (w.alloc (.cells #[.int .i64 o.id,.int .i64 o.size,.int .i64 o.pick.place,.int .i64 o.pick.win.fr,.int .i64 o.pick.win.to,.int .i64 o.pick.serv,.int .i64 o.drop.place,.int .i64 o.drop.win.fr,.int .i64 o.drop.win.to,.int .i64 o.drop.serv] 31))):=(Below.refl _ _).alloc (Nat.le_refl _) _;have HX0:Hid (OBox (w.alloc (.cells #[.int .i64 o.id,.int .i64 o.size,.int .i64 o.pick.place,.int .i64 o.pick.win.fr,.int .i64 o.pick.win.to,.int .i64 o.pick.serv,.int .i64 o.drop.place,.int .i64 o.drop.win.fr,.int .i64 o.drop.win.to,.int .i64 o.drop.serv] 31)) w.heap.size o):=Blk.new w _ _;go_enter Tryz.func149,Tryz.ntmps149;have hmf:∀(fn:Fn) (first cap:Array Value) (w:World),(Instr.makeFunc fn first cap).run Tryz.prog w=.ok (.func fn first cap) w:=fun _ _ _ _=>rfl;go_wp2_with fail
 refine(o_H A n c os w.heap.size o t _ (by exact Recs.more (Recs.keep HO.out HB0.out) HB0.out.size) (by exact HX0.out) HT.out).mono ?_;rintro e w1 ⟨rfl,hb1⟩;have HB1:=Lib.hid (HB0.out.trans (hb1.mono HB0.out.size));have HX1:=Lib.hid (HX0.out.below hb1);clear hb1 HB0 HX0 hmf;obtain⟨o0,o1,o2,o3,o4,o5,o6,o7,o8,o9⟩:=HX1.out.cells;go_wp2_with fail
 refine(e_Q base pv m o _ (by exact HM.out.keep HB1.out)).mono ?_;rintro e w2 ⟨rfl,hb2⟩;rw[HE.out];have HB2:=Lib.hid (HB1.out.trans (hb2.mono HB1.out.size));clear hb2 HB1 HX1 o0 o1 o2 o3 o4 o5 o6 o7 o8 o9;by_cases h1:e0=0
 case neg=>
  have HF:Hid (r=false):=by show _=_;rw[← HR.out,decide_eq_false h1];rfl
  have e1:(e0==0)=false:=by simpa using h1
  clear h1;go_wp2_with fail
  go_ret;exact⟨by first|(rw[HF.out];done)|(rw[HF.out];rfl),HB2.out⟩
 subst h1;cases t with
 |true=>
  have HF:Hid (r=false):=by show _=_;rw[← HR.out];simp
  go_wp2_with fail
  go_ret;exact⟨by first|(rw[HF.out];done)|(rw[HF.out];rfl),HB2.out⟩
 |false=>
 by_cases h2:0≤b
 case neg=>
  have HF:Hid (r=false):=by show _=_;rw[← HR.out,decide_eq_false h2];simp
  go_wp2_with fail
  go_ret;exact⟨by first|(rw[HF.out];done)|(rw[HF.out];rfl),HB2.out⟩
 have HF:Hid (r=decide (b≤100000)):=by show _=_;rw[← HR.out,decide_eq_true h2];simp
 go_wp2_with fail
 go_ret;exact⟨by first|(rw[HF.out];done)|(rw[HF.out];rfl),HB2.out⟩
end Insert
namespace Insert
open Shelf
attribute [local go_sem] Oper.semAt_some
abbrev encP(p:Nat×Nat):Array Value:=#[.int .i64 (p.1:Int),.int .i64 (p.2:Int)]
def KpB(g:Nat)(W W':World):Prop:=W'.heap[g]?=W.heap[g]?
theorem KpB.trans{g:Nat}{A B C:World}(h:KpB g A B)(k:KpB g B C):KpB g A C:=Eq.trans k h
theorem q_Y(n l g:Nat)(hn:1≤n)(x:RM)(sv:Nat)(hsv:x.rt.served=(sv:Int))(hle:sv≤x.n)(hx:x.n≤1000)(J Jx:List (Nat×Nat)→World→Prop)
 (hY:∀pre p W,J pre W→pre.length<(posL sv x.n).length→YieldAt Fence.wide (n-1) Tryz.prog l (encP p) W fun e W'=>
   (e=.returned (.bool true)∧J (pre++[p]) W'∧KpB g W W')∨(e=.returned (.bool false)∧Jx (pre++[p]) W'))
 (W:World) (hb:RBox W g x) (h0:J [] W):
 CallsIn Fence.wide n Tryz.prog 242 #[.func (.yield l) #[] #[],.pointer (some ⟨g,0,none⟩)] W fun e W'=>(∃ v,e=.returned v)∧((∃ ys,ys=posL sv x.n∧J ys W')∨(∃ pre,pre <+: posL sv x.n∧Jx pre W')):=by
 have HY:=Lib.hid hY;have HB:=Lib.hid hb;have HSV:=Lib.hid hsv;obtain⟨r0,r1,r2⟩:=hb.cells;rw[hsv]at r1;clear hY hb hsv;refine callsIn_of_wp Tryz.func242 rfl trivial ?_ rfl;simp only[Tryz.ntmps242,List.size_toArray,List.length_cons,List.length_nil,Nat.reduceAdd,Nat.reduceSub,Array.replicate_succ,Array.replicate_zero,List.push_toArray,List.append_toArray,List.nil_append,List.cons_append];gi_wp2
 clear r0 r1 r2;gi_loopw [3] (fun iv wr=>∃(i:Nat) (pre:List (Nat×Nat)),i≤x.n+1∧iv=.int .i64 (i:Int)∧Hid (RBox wr g x)∧Hid (J pre wr)∧Hid (posL sv x.n=pre++posL i x.n)) (fun iv _=>x.n+1-(intOf iv).toNat)
 case atStart=>exact⟨sv,[],by omega,rfl,HB,Lib.hid h0,Lib.hid rfl⟩
 case round=>
  clear HB h0;obtain⟨i,pre,hi,rfl,HB,HJ,HP⟩:=hrel;obtain⟨r0,r1,r2⟩:=HB.out.cells;by_cases hin:i≤x.n
  case neg=>
   have HE:Hid (pre=posL sv x.n):=by
    show _=_;rw[HP.out,q_V (by omega),List.append_nil]
   have e1:(x.n:Int)<(i:Int):=by omega
   clear hin r0 r1;gi_wp2
   go_end0
   exact⟨⟨_,rfl⟩,.inl ⟨_,HE.out,HJ.out⟩⟩
  have HP1:Hid (posL sv x.n=pre++(rowL i i x.n++posL (i+1) x.n)):=by
   show _=_;rw[HP.out,o_w hin]
  have e1:(i:Int)≤(x.n:Int):=by omega
  clear HP;gi_wp2
  clear r0 r1 r2;gi_loopw [4] (fun jv wz=>∃(j:Nat) (pre:List (Nat×Nat)),i≤j∧j≤x.n+1∧jv=.int .i64 (j:Int)∧Hid (RBox wz g x)∧Hid (J pre wz)∧Hid (posL sv x.n=pre++(rowL i j x.n++posL (i+1) x.n))) (fun jv _=>x.n+1-(intOf jv).toNat)
  case atStart=>exact⟨i,pre,Nat.le_refl _,by omega,rfl,HB,HJ,HP1⟩
  case round=>
   clear HB HJ HP1;obtain⟨j,pre,hij,hj,rfl,HB,HJ,HP⟩:=hrel;obtain⟨r0,r1,r2⟩:=HB.out.cells;by_cases hjn:j≤x.n
   case neg=>
    have HE:Hid (posL sv x.n=pre++posL (i+1) x.n):=by
     show _=_;rw[HP.out,q_U (by omega),List.nil_append]
    have e2:(x.n:Int)<(j:Int):=by omega
    clear hjn r0 r1;gi_wp2
    go_roundw
    case rel=>exact⟨i+1,pre,by omega,by go_num,HB,HJ,HE⟩
    case measure=>simp[intOf];omega
   have HP2:Hid (posL sv x.n=(pre++[(i,j)])++(rowL i (j+1) x.n++posL (i+1) x.n)):=by
    show _=_;rw[HP.out,o_v hjn];simp
   have e2:(j:Int)≤(x.n:Int):=by omega
   obtain⟨fn,tmps,assign,body,hy,hR⟩:=HY.out pre (i,j) wr HJ.out (by rw[HP2.out];simp);dsimp only[encP]at hy;have HR:=Lib.hid hR;clear hR HP r0 r1;gi_wp2
   refine HR.out.mono ?_;rintro e W3 (⟨rfl,hJ3,hk3⟩|⟨rfl,hJx3⟩)
   ·have HB3:Hid (RBox W3 g x):=Eq.trans hk3 HB.out
    have HJ3:=Lib.hid hJ3;clear hJ3 hk3 HB HJ hy HR;gi_wp2
    go_roundw
    case rel=>exact⟨j+1,_,by omega,by omega,by go_num,HB3,HJ3,HP2⟩
    case measure=>simp[intOf];omega
   ·have HJ3:=Lib.hid hJx3
    clear hJx3 HB HJ hy HR;gi_wp2
    refine bodyPost_ret (results_none rfl _ _ _) rfl ?_;exact⟨⟨_,rfl⟩,.inr ⟨_,⟨_,HP2.out.symm⟩,HJ3.out⟩⟩
theorem m_H(n g:Nat)(hn:1≤n)(x:RM)(sv:Nat)(hsv:x.rt.served=(sv:Int))(hle:sv≤x.n)(hx:x.n≤1000)(w:World)(hb:RBox w g x):
 SeqStopsK Fence.wide n Tryz.prog 242 #[.pointer (some ⟨g,0,none⟩)] encP (KpB g) (fun ys=>ys=posL sv x.n) (fun pre=>pre <+: posL sv x.n) (posL sv x.n).length w:=
 fun l J Jx W hW _ _ hY h0=>q_Y n l g hn x sv hsv hle hx J Jx hY W (hb.below hW) h0
theorem q_Z(x:RM)(w:World):Calls Tryz.prog 213 #[rteV x] w fun e w'=>e=.returned (.func (.func 242) #[] #[.pointer (some ⟨w.heap.size,0,none⟩)])∧w'=w.alloc (.cells #[.int .i64 x.rt.drv,.int .i64 x.rt.served,.slice x.a x.n x.c] 37):=by
 go_enter Tryz.func213,Tryz.ntmps213;have hmf:∀(fn:Fn) (first cap:Array Value) (w:World),(Instr.makeFunc fn first cap).run Tryz.prog w=.ok (.func fn first cap) w:=fun _ _ _ _=>rfl;go_wp2_with fail
 go_ret;exact⟨rfl,rfl⟩
end Insert
namespace Insert
open Shelf Slack
theorem c_V{P:Program}{f:FuncId}{fn:Func}{c:Code}{args:Array Value}{w:World}{R:Ending→World→Prop}(hf:P.funcs[f]?=some fn)(hb:fn.body=some c)
 (h:c.wp P (bodyPostM Fence.wide 9 P fn R) {tmps:=args++Array.replicate (fn.ntmps-args.size) undef,defers:=[]} w):Calls P f args w R:=
 callsIn_wide.1 (callsIn_of_wp_marks hf hb trivial (wpIn_wide.2 h))
theorem c_u{P:Program}{fn:Func}{R:Ending→World→Prop}{a:Act}{w:World}{v:Value}(hr:(results fn a.tmps).run P w=.ok v w)(hd:a.defers=[])(hR:R (.returned v) w):bodyPostM Fence.wide 9 P fn R .ret a w:=by
 show LeavesInM Fence.wide 9 P fn a.tmps R a.defers .returning w;rw[hd];exact⟨v,hr,hR⟩
theorem e_T{P:Program}{fn:Func}{R:Ending→World→Prop}{a:Act}{w:World}{v:Value}{D:Nat}(hd:a.defers=[{ target:=.collected D,args:=#[] }])(hk:w.heap[D]?=some (.deferred (some [])))(hr:(results fn a.tmps).run P (w.putObj D (.deferred none))=.ok v (w.putObj D (.deferred none)))(hR:R (.returned v) (w.putObj D (.deferred none))):bodyPostM Fence.wide 9 P fn R .ret a w:=by
 show LeavesInM Fence.wide 9 P fn a.tmps R a.defers .returning w;rw[hd];exact⟨by simp,.inl ⟨D,_,rfl,run_takeDeferred hk,⟨v,hr,hR⟩⟩⟩
structure PS(w:World)(q:Option Addr)(d:Drv)(x:RM)(o:FleetMath.Ord)(b:Int)(u:World):Prop where
 old:Below w.heap.size w u
 map:Blk u w.heap.size 22 [.pointer q]
 drv:DBox u (w.heap.size+1) d
 rte:RBox u (w.heap.size+2) x
 ord:OBox u (w.heap.size+3) o
 bud:Blk u (w.heap.size+4) 3 [.int .i64 b]
 res:S4Box u (w.heap.size+5) sp0
section
variable {w u u' : World} {q : Option Addr} {d : Drv} {x : RM} {o : FleetMath.Ord} {b : Int}
theorem PS.next(h:PS w q d x o b u)(hb:Below u.heap.size u u'):PS w q d x o b u':=
 ⟨h.old.trans (hb.mono h.old.size),Blk.below h.map hb (Blk.lt h.map),h.drv.below hb,h.rte.below hb,h.ord.below hb,Blk.below h.bud hb (Blk.lt h.bud),Blk.below h.res hb (Blk.lt h.res)⟩
theorem PS.start:PS w q d x o b ((((((w.alloc (.cells #[.pointer q] 22)).alloc (.cells #[.int .i64 d.id,.int .i64 d.room,.int .i64 d.home,.int .i64 d.win.fr,.int .i64 d.win.to,.bool d.retired] 33)).alloc (.cells #[.int .i64 x.rt.drv,.int .i64 x.rt.served,.slice x.a x.n x.c] 37)).alloc (.cells #[.int .i64 o.id,.int .i64 o.size,.int .i64 o.pick.place,.int .i64 o.pick.win.fr,.int .i64 o.pick.win.to,.int .i64 o.pick.serv,.int .i64 o.drop.place,.int .i64 o.drop.win.fr,.int .i64 o.drop.win.to,.int .i64 o.drop.serv] 31)).alloc (.cells #[.int .i64 b] 3)).alloc (.cells #[.int .i64 0,.int .i64 0,.int .i64 0,.int .i64 0] 150)):=by
 have b0:∀(u:World) (ob:Obj),Below u.heap.size u (u.alloc ob):=fun u ob=>(Below.refl _ _).alloc (Nat.le_refl _) _;have f0:Blk (w.alloc (.cells #[.pointer q] 22)) w.heap.size 22 [.pointer q]:=Blk.new w _ _;obtain⟨w1,h1⟩:∃u,w.alloc (.cells #[.pointer q] 22)=u:=⟨_,rfl⟩;have z1:w1.heap.size=w.heap.size+1:=by rw[← h1];simp
 have o1:Below w.heap.size w w1:=by rw[← h1];exact b0 _ _
 rw[h1]at f0 ⊢;have f1:DBox (w1.alloc (.cells #[.int .i64 d.id,.int .i64 d.room,.int .i64 d.home,.int .i64 d.win.fr,.int .i64 d.win.to,.bool d.retired] 33)) w1.heap.size d:=Blk.new w1 _ _;rw[z1]at f1;obtain⟨w2,h2⟩:∃u,w1.alloc (.cells #[.int .i64 d.id,.int .i64 d.room,.int .i64 d.home,.int .i64 d.win.fr,.int .i64 d.win.to,.bool d.retired] 33)=u:=⟨_,rfl⟩;have z2:w2.heap.size=w.heap.size+2:=by rw[← h2];simp[z1]
 have o2:Below w1.heap.size w1 w2:=by rw[← h2];exact b0 _ _
 rw[h2]at f1 ⊢;have f2:RBox (w2.alloc (.cells #[.int .i64 x.rt.drv,.int .i64 x.rt.served,.slice x.a x.n x.c] 37)) w2.heap.size x:=Blk.new w2 _ _;rw[z2]at f2;obtain⟨w3,h3⟩:∃u,w2.alloc (.cells #[.int .i64 x.rt.drv,.int .i64 x.rt.served,.slice x.a x.n x.c] 37)=u:=⟨_,rfl⟩;have z3:w3.heap.size=w.heap.size+3:=by rw[← h3];simp[z2]
 have o3:Below w2.heap.size w2 w3:=by rw[← h3];exact b0 _ _
 rw[h3]at f2 ⊢;have f3:OBox (w3.alloc (.cells #[.int .i64 o.id,.int .i64 o.size,.int .i64 o.pick.place,.int .i64 o.pick.win.fr,.int .i64 o.pick.win.to,.int .i64 o.pick.serv,.int .i64 o.drop.place,.int .i64 o.drop.win.fr,.int .i64 o.drop.win.to,.int .i64 o.drop.serv] 31)) w3.heap.size o:=Blk.new w3 _ _;rw[z3]at f3;obtain⟨w4,h4⟩:∃u,w3.alloc (.cells #[.int .i64 o.id,.int .i64 o.size,.int .i64 o.pick.place,.int .i64 o.pick.win.fr,.int .i64 o.pick.win.to,.int .i64 o.pick.serv,.int .i64 o.drop.place,.int .i64 o.drop.win.fr,.int .i64 o.drop.win.to,.int .i64 o.drop.serv] 31)=u:=⟨_,rfl⟩;have z4:w4.heap.size=w.heap.size+4:=by rw[← h4];simp[z3]
 have o4:Below w3.heap.size w3 w4:=by rw[← h4];exact b0 _ _
 rw[h4]at f3 ⊢;have f4:Blk (w4.alloc (.cells #[.int .i64 b] 3)) w4.heap.size 3 [.int .i64 b]:=Blk.new w4 _ _;rw[z4]at f4;obtain⟨w5,h5⟩:∃u,w4.alloc (.cells #[.int .i64 b] 3)=u:=⟨_,rfl⟩;have z5:w5.heap.size=w.heap.size+5:=by rw[← h5];simp[z4]
 have o5:Below w4.heap.size w4 w5:=by rw[← h5];exact b0 _ _
 rw[h5]at f4 ⊢;have f5:S4Box (w5.alloc (.cells #[.int .i64 0,.int .i64 0,.int .i64 0,.int .i64 0] 150)) w5.heap.size sp0:=Blk.new w5 _ _;rw[z5]at f5;have o6:Below w5.heap.size w5 (w5.alloc (.cells #[.int .i64 0,.int .i64 0,.int .i64 0,.int .i64 0] 150)):=b0 _ _;exact⟨(((((o1.trans (o2.mono (by omega))).trans (o3.mono (by omega))).trans (o4.mono (by omega))).trans (o5.mono (by omega))).trans (o6.mono (by omega))),(Blk.below (Blk.below (Blk.below (Blk.below (Blk.below f0 o2 (Blk.lt f0)) o3 (Blk.lt (Blk.below f0 o2 (Blk.lt f0)))) o4 (Blk.lt (Blk.below (Blk.below f0 o2 (Blk.lt f0)) o3 (Blk.lt (Blk.below f0 o2 (Blk.lt f0)))))) o5 (Blk.lt (Blk.below (Blk.below (Blk.below f0 o2 (Blk.lt f0)) o3 (Blk.lt (Blk.below f0 o2 (Blk.lt f0)))) o4 (Blk.lt (Blk.below (Blk.below f0 o2 (Blk.lt f0)) o3 (Blk.lt (Blk.below f0 o2 (Blk.lt f0)))))))) o6 (Blk.lt (Blk.below (Blk.below (Blk.below (Blk.below f0 o2 (Blk.lt f0)) o3 (Blk.lt (Blk.below f0 o2 (Blk.lt f0)))) o4 (Blk.lt (Blk.below (Blk.below f0 o2 (Blk.lt f0)) o3 (Blk.lt (Blk.below f0 o2 (Blk.lt f0)))))) o5 (Blk.lt (Blk.below (Blk.below (Blk.below f0 o2 (Blk.lt f0)) o3 (Blk.lt (Blk.below f0 o2 (Blk.lt f0)))) o4 (Blk.lt (Blk.below (Blk.below f0 o2 (Blk.lt f0)) o3 (Blk.lt (Blk.below f0 o2 (Blk.lt f0)))))))))),((((f1.below o3).below o4).below o5).below o6),(((f2.below o4).below o5).below o6),((f3.below o5).below o6),(Blk.below f4 o6 (Blk.lt f4)),f5⟩
theorem PS.put(h:PS w q d x o b u)(y:Sp4):Below w.heap.size w (c_v u (w.heap.size+5) y):=b_Y h.old (by omega) y
end
def h_1(m:Option Mp)(d:Drv)(os:List FleetMath.Ord)(o:FleetMath.Ord)(stops:List Stp)(p:Nat×Nat):Option Sp4:=
 match cost m d (os++[o]) (putR stops o.id p.1 p.2)with
 |none=>none
 |some c=>some ⟨d.id,p.1,p.2,c-oldC m d os stops⟩
theorem m_I{m:Option Mp}{d:Drv}{os:List FleetMath.Ord}{o:FleetMath.Ord}{stops:List Stp}{sv n:Nat}(hn:n=stops.length):(posL sv n).map (h_1 m d os o stops)=(posL sv n).map (k_p m d os o stops):=by
 refine List.map_congr_left fun p hp=>?_;obtain⟨h1,h2,h3⟩:=mem_posL.1 hp;unfold h_1 k_p;rw[l_L h2 (by omega)];cases cost m d (os++[o]) (putM stops o.id p.1 p.2)<;>rfl
theorem Named.better{s t:Option Sp4}(hs:Named s)(ht:Named t):Named (a_u s t):=by
 cases t with
 |none=>exact hs
 |some y=>
  cases s with
  |none=>exact ht
  |some z=>
   unfold a_u;simp only;split
   ·exact ht
   ·exact hs
theorem c_9{s:Option Sp4}{y:Sp4}:a_u s (some y)=some ((a_u s (some y)).getD sp0):=by
 cases s with
 |none=>rfl
 |some z=>
  by_cases h:y.cost<z.cost
  ·rw[a_X h];rfl
  ·rw[a_Y h];rfl
theorem i_N(s:Option Sp4)(z y r:Sp4)(hs:Named s)(hz:s.getD sp0=z)(hr:(a_u s (some y)).getD sp0=r)(w:World):Calls Tryz.prog 152 #[sp4V z,sp4V y] w (a_y w (sp4V r)):=by
 subst hz hr;exact k_t s y w hs
theorem k_u(s:Srch)(z:Sp4)(t:Sp4×Int×Int)(hs:Named s.1)(hz:s.1.getD sp0=z)(ht:d_S s=t)(w:World):Calls Tryz.prog 153 #[sp4V z,.int .i64 ((s.2:Nat):Int)] w (a_y w (c_g t)):=by
 subst hz ht;exact o_I s w hs
abbrev stQ(m:Option Mp)(d:Drv)(os:List FleetMath.Ord)(o:FleetMath.Ord)(stops:List Stp)(b:Nat)(pre:List (Nat×Nat)):Srch:=goOn b (none,0) (pre.map (h_1 m d os o stops))
section
variable {m : Option Mp} {d : Drv} {os : List FleetMath.Ord} {o : FleetMath.Ord} {stops : List Stp} {b : Nat} {pre : List (Nat × Nat)} {p : Nat × Nat}
theorem q_0{s:Srch}(h:s.2<b)(c:Option Sp4):goOn b s [c]=(a_u s.1 c,s.2+1):=by rw[f_T h,e_l]
theorem s_A:stQ m d os o stops b []=(none,0):=e_l _ _
theorem q_1(h:(stQ m d os o stops b pre).2<b):stQ m d os o stops b (pre++[p])=(a_u (stQ m d os o stops b pre).1 (h_1 m d os o stops p),(stQ m d os o stops b pre).2+1):=by
 unfold stQ at h ⊢;rw[List.map_append,d_7];exact q_0 h _
theorem q_2{all:List (Nat×Nat)}(h:b≤(stQ m d os o stops b pre).2)(hp:pre <+: all):stQ m d os o stops b all=stQ m d os o stops b pre:=by
 obtain⟨t,rfl⟩:=hp;unfold stQ at h ⊢;rw[List.map_append,d_7,e_m h]
end
structure LP(X:World)(s:Srch)(u:World):Prop where
 old:Below X.heap.size X u
 best:S4Box u X.heap.size (s.1.getD sp0)
 steps:Blk u (X.heap.size+1) 3 [.int .i64 ((s.2:Nat):Int)]
 more:X.heap.size+3≤u.heap.size
structure K2(X u u':World):Prop where
 size:u.heap.size≤u'.heap.size
 same:∀k,k<u.heap.size→k≠X.heap.size→k≠X.heap.size+1→u'.heap[k]?=u.heap[k]?
section
variable {X u u' u'' : World} {s t : Srch}
theorem K2.refl(X u:World):K2 X u u:=⟨Nat.le_refl _,fun _ _ _ _=>rfl⟩
theorem K2.trans(h:K2 X u u')(k:K2 X u' u''):K2 X u u'':=⟨Nat.le_trans h.size k.size,fun j h1 h2 h3=>(k.same j (Nat.lt_of_lt_of_le h1 h.size) h2 h3).trans (h.same j h1 h2 h3)⟩
theorem K2.of_below(h:Below u.heap.size u u'):K2 X u u':=⟨h.size,fun k h1 _ _=>h.block k h1⟩
theorem K2.of_only{g:Nat}(hg:g=X.heap.size∨g=X.heap.size+1)(h:Only g u u'):K2 X u u':=⟨Nat.le_of_eq h.size.symm,fun k _ h2 h3=>h.other k fun e=>by subst e;rcases hg with e|e;exact h2 e;exact h3 e⟩
theorem K2.from_(h:K2 X u u'):KeepsFrom (X.heap.size+3) u u':=⟨h.size,fun k o hk ho _=>(h.same k (Array.getElem?_eq_some_iff.1 ho).1 (by omega) (by omega)).trans ho⟩
theorem K2.kp(h:K2 X u u')(hl:X.heap.size+3≤u.heap.size):KpB (X.heap.size+2) u u':=h.same _ (by omega) (by omega) (by omega)
theorem LP.next(h:LP X s u)(hb:Below u.heap.size u u'):LP X s u':=
 ⟨h.old.trans (hb.mono h.old.size),Blk.below h.best hb (Blk.lt h.best),Blk.below h.steps hb (Blk.lt h.steps),Nat.le_trans h.more hb.size⟩
theorem LP.step(h:LP X s u)(k:Nat):LP X (s.1,k) (u.setCell ⟨X.heap.size+1,0,none⟩ (.int .i64 (k:Int))):=by
 have ho:Only (X.heap.size+1) u (u.setCell ⟨X.heap.size+1,0,none⟩ (.int .i64 (k:Int))):=(Only.refl _ _).set _ _;exact⟨h.old.trans (ho.below.mono (by omega)),ho.blk h.best (by omega),Blk.put h.steps 0 _,by have:=h.more;rw[ho.size];exact this⟩
theorem LP.put(h:LP X s u)(y:Sp4):LP X (some y,s.2) (c_v u X.heap.size y):=by
 have ho:Only X.heap.size u (c_v u X.heap.size y):=((((Only.refl _ _).set _ _).set _ _).set _ _).set _ _;exact⟨h.old.trans (ho.below.mono (by omega)),a_I h.best y,ho.blk h.steps (by omega),by have:=h.more;rw[ho.size];exact this⟩
theorem d_K(u:World)(g:Nat)(y:Sp4):Only g u (c_v u g y):=((((Only.refl _ _).set _ _).set _ _).set _ _).set _ _
theorem LP.own{β:Type}(f:β→Srch)(X:World):OwnFrom (X.heap.size+3) (fun(s:β) W=>LP X (f s) W):=by
 intro s A B row h hg hr;have hb:∀k,k<X.heap.size+3→B.heap[k]?=A.heap[k]? :=fun k hk=>hg.block k (Nat.lt_of_lt_of_le hk h.more) fun e=>by have:=(hr k e.symm).1;omega
 exact⟨h.old.grown hg h.old.size (fun k e=>by have:=(hr k e).1;omega),(hb _ (by omega)).trans h.best,(hb _ (by omega)).trans h.steps,Nat.le_trans h.more hg.size⟩
theorem run_load_mp{g:Nat}{q:Option Addr}(h:u.cell? ⟨g,0,none⟩=some (.pointer q)):(Instr.loadAt 22 (.pointer (some ⟨g,0,none⟩))).run Tryz.prog u=.ok (.pointer q) u:=by simp[go_sem,h]
theorem run_load_os{g:Nat}{A:Option Addr}{n c:Nat}(h:u.cell? ⟨g,0,none⟩=some (.slice A n c)):(Instr.loadAt 40 (.pointer (some ⟨g,0,none⟩))).run Tryz.prog u=.ok (.slice A n c) u:=by simp[go_sem,h]
end
theorem f_W(l:List Stp)(o i j:Int):(putR l o i j).length≤l.length+2:=by
 unfold putR;split
 ·rename_i h;rw[f_B (by omega) (by omega)];exact Nat.le_refl _
 ·simp
theorem h_2{m:Option Mp}{d:Drv}{os:List FleetMath.Ord}{r:Rte}{o:FleetMath.Ord}{b:Int}(h:cost m d os r.stops=none):b_M m d os r o b:=by
 refine bestBad_iff.2 (.inr fun h0=>?_);obtain⟨m',_,rfl,_⟩:=b_F h0;unfold cost at h;simp only at h;rw[if_pos h0]at h;cases h
theorem g_N{m:Option Mp}{d:Drv}{os:List FleetMath.Ord}{stops:List Stp}{c:Int}(h:cost m d os stops=some c):(a_J m d os stops).2.2=0:=by
 unfold cost at h;cases m with
 |none=>cases h
 |some m'=>
  simp only at h;split at h
  ·assumption
  ·cases h
end Insert
namespace Insert
open Shelf Slack
attribute [local go_sem] Oper.semAt_some
theorem o_J(base:Nat)(pv:Value)(m:Option Mp)(d:Drv)(A2:Option Addr)(n2 c2:Nat)(os:List FleetMath.Ord)(x:RM)(o:FleetMath.Ord)(b:Int)(w:World)(h:MapP w 92 base pv m)(ho:Ords w w.heap.size A2 n2 os)(hs:Stps w w.heap.size x.a x.n x.rt.stops)(hxc:x.n≤x.c)(hnc:n2≤c2)(hr:n2*80≤140737488351232)(hr':x.n*16≤140737488351232):
 Calls Tryz.prog 150 #[pv,drvV d,.slice A2 n2 c2,rteV x,ordV o,.int .i64 b] w (a_y w (c_g (g_L m d os x.rt o b))):=by
 obtain⟨rt,xa,xn,xc⟩:=x;simp only at hs hxc hr';have hm3:=Recs.le hs;have hm2:=Recs.le ho;have HM:=Lib.hid h;have HO:=Lib.hid ho;have HST:=Lib.hid hs;have HL3:=Lib.hid hs.length;have HL2:=Lib.hid ho.length;have HNR:=Lib.hid (near h);obtain⟨R,hR⟩:∃R,g_L m d os rt o b=R:=⟨_,rfl⟩;have HR:=Lib.hid hR;show Calls _ _ #[pv,.agg #[.int .i64 d.id,.int .i64 d.room,.int .i64 d.home,.int .i64 d.win.fr,.int .i64 d.win.to,.bool d.retired],.slice A2 n2 c2,.agg #[.int .i64 rt.drv,.int .i64 rt.served,.slice xa xn xc],.agg #[.int .i64 o.id,.int .i64 o.size,.int .i64 o.pick.place,.int .i64 o.pick.win.fr,.int .i64 o.pick.win.to,.int .i64 o.pick.serv,.int .i64 o.drop.place,.int .i64 o.drop.win.fr,.int .i64 o.drop.win.to,.int .i64 o.drop.serv],.int .i64 b] _ _;rw[show g_L m d os (RM.mk rt xa xn xc).rt o b=R from hR]
 obtain⟨q,hq⟩:∃q,pv=.pointer q:=by
  rcases h with⟨rfl,_⟩|⟨_,_,_,rfl,_⟩
  ·exact⟨_,rfl⟩
  ·exact⟨_,rfl⟩
 subst hq;have HS0:Hid (PS w q d ⟨rt,xa,xn,xc⟩ o b ((((((w.alloc (.cells #[.pointer q] 22)).alloc (.cells #[.int .i64 d.id,.int .i64 d.room,.int .i64 d.home,.int .i64 d.win.fr,.int .i64 d.win.to,.bool d.retired] 33)).alloc (.cells #[.int .i64 rt.drv,.int .i64 rt.served,.slice xa xn xc] 37)).alloc (.cells #[.int .i64 o.id,.int .i64 o.size,.int .i64 o.pick.place,.int .i64 o.pick.win.fr,.int .i64 o.pick.win.to,.int .i64 o.pick.serv,.int .i64 o.drop.place,.int .i64 o.drop.win.fr,.int .i64 o.drop.win.to,.int .i64 o.drop.serv] 31)).alloc (.cells #[.int .i64 b] 3)).alloc (.cells #[.int .i64 0,.int .i64 0,.int .i64 0,.int .i64 0] 150))):=PS.start (x:=⟨rt,xa,xn,xc⟩);obtain⟨ov,ok0,hov,hov1⟩:=o_K m d os rt.stops;have HOV:=Lib.hid hov;have HOC:=Lib.hid hov1
 have HOK:Hid ((ok0=true→(a_J m d os rt.stops).2.2=0)∧(ok0=false→cost m d os rt.stops=none)):=by
  constructor
  ·intro hk
   cases hc:cost m d os rt.stops with
   |none=>rw[hc]at hov;injection hov with hov;rw[hk]at hov;simp at hov
   |some c=>exact g_N hc
  ·intro hk
   cases hc:cost m d os rt.stops with
   |none=>rfl
   |some c=>rw[hc]at hov;injection hov with hov;rw[hk]at hov;simp at hov
 clear h ho hs hR hov hov1;refine c_V Tryz.func150 rfl ?_;simp only[Tryz.ntmps150,List.size_toArray,List.length_cons,List.length_nil,Nat.reduceAdd,Nat.reduceSub,Array.replicate_succ,Array.replicate_zero,List.push_toArray,List.append_toArray,List.nil_append,List.cons_append];go_upto_region 1 with fail
 obtain⟨u0,hu0⟩:∃u,((((((w.alloc (.cells #[.pointer q] 22)).alloc (.cells #[.int .i64 d.id,.int .i64 d.room,.int .i64 d.home,.int .i64 d.win.fr,.int .i64 d.win.to,.bool d.retired] 33)).alloc (.cells #[.int .i64 rt.drv,.int .i64 rt.served,.slice xa xn xc] 37)).alloc (.cells #[.int .i64 o.id,.int .i64 o.size,.int .i64 o.pick.place,.int .i64 o.pick.win.fr,.int .i64 o.pick.win.to,.int .i64 o.pick.serv,.int .i64 o.drop.place,.int .i64 o.drop.win.fr,.int .i64 o.drop.win.to,.int .i64 o.drop.serv] 31)).alloc (.cells #[.int .i64 b] 3)).alloc (.cells #[.int .i64 0,.int .i64 0,.int .i64 0,.int .i64 0] 150))=u:=⟨_,rfl⟩;rw[hu0]at HS0
 (try rw[hu0])
 clear hu0;have p0:=Blk.cell (i:=0) HS0.out.map rfl;obtain⟨d0,d1,d2,d3,d4,d5⟩:=HS0.out.drv.cells;obtain⟨r0,r1,r2⟩:=RBox.cells (x:=⟨rt,xa,xn,xc⟩) HS0.out.rte;go_wp2_with fail
 refine(g_E base (.pointer q) m d A2 n2 c2 os xa xn xc rt.stops _ (by exact HM.out.keep HS0.out.old) (by exact Recs.more (Recs.keep HO.out HS0.out.old) HS0.out.old.size) (by exact Recs.more (Recs.keep HST.out HS0.out.old) HS0.out.old.size) hxc hnc).mono ?_;rintro e w1 ⟨rfl,hb1⟩;rw[HOV.out];have hb1a:Below u0.heap.size u0 (w1.alloc (.cells #[.int .i64 ov] 3)):=hb1.trans (((Below.refl _ _).alloc (Nat.le_refl _) _).mono hb1.size);have HS1:=Lib.hid (HS0.out.next hb1a);have HBF:Hid (Blk (w1.alloc (.cells #[.int .i64 ov] 3)) w1.heap.size 3 [.int .i64 ov]):=Blk.new w1 _ _;clear hb1 hb1a HS0 HOV p0 d0 d1 d2 d3 d4 d5 r0 r1 r2;go_upto_region 2 with fail
 obtain⟨g1,hg1⟩:∃g,w1.heap.size=g:=⟨_,rfl⟩;obtain⟨u1,hu1⟩:∃u,w1.alloc (.cells #[.int .i64 ov] 3)=u:=⟨_,rfl⟩;rw[hg1,hu1]at HBF;rw[hu1]at HS1;rw[hg1,hu1];clear hg1 hu1;have hcs:=a_c (w.heap.size+5);have hfs:=a_d;cases ok0 with
 |false=>
  have HF:Hid ((sp0,0,1)=R):=by show _=_;rw[← HR.out,d_s (h_2 (HOK.out.2 rfl))]
  have hff:=Blk.free HS1.out.res;obtain⟨x0,x1,x2,x3⟩:=HS1.out.res.cells;have HRS:=Lib.hid (a_I HS1.out.res sp0).cells;have HBR:=Lib.hid (HS1.out.put sp0);go_wp2_with fail
  refine c_u (v:=c_g (sp0,0,1)) ?_ rfl ⟨by rw[HF.out],HBR.out⟩;obtain⟨q0,q1,q2,q3⟩:=HRS.out;simp[results,Tryz.results150,go_sem,q0,q1,q2,q3]
 |true=>
 have HDR:=Lib.hid (HOK.out.1 rfl);clear HOK;obtain⟨t,ht⟩:∃t,askM m os o b=t:=⟨_,rfl⟩;have HT:=Lib.hid ht;clear ht;have p0:=Blk.cell (i:=0) HS1.out.map rfl;have b0:=Blk.cell (i:=0) HS1.out.bud rfl;obtain⟨o0,o1,o2,o3,o4,o5,o6,o7,o8,o9⟩:=HS1.out.ord.cells;go_wp2_with fail
 refine(f_V base (.pointer q) m A2 n2 c2 os o b _ (by exact HM.out.keep HS1.out.old) (by exact Recs.more (Recs.keep HO.out HS1.out.old) HS1.out.old.size)).mono ?_;rintro e w2 ⟨rfl,hb2⟩;rw[HT.out];have HS2:=Lib.hid (HS1.out.next hb2);have HBF2:Hid (Blk w2 g1 3 [.int .i64 ov]):=Blk.below HBF.out hb2 (Blk.lt HBF.out);clear hb2 HS1 HBF p0 b0 o0 o1 o2 o3 o4 o5 o6 o7 o8 o9;obtain⟨d0,d1,d2,d3,d4,d5⟩:=HS2.out.drv.cells;obtain⟨r0,r1,r2⟩:=RBox.cells (x:=⟨rt,xa,xn,xc⟩) HS2.out.rte;cases t with
 |false=>
  have HB:Hid (b_M m d os rt o b):=by
   have h1:=HT.out;unfold askM at h1;unfold b_M;by_cases e1:ordE m o=0
   ·rw[decide_eq_true e1,Bool.true_and]at h1
    cases hf:(find os o.id).isSome with
    |true=>exact .inr (.inr (.inr (.inl rfl)))
    |false=>
     rw[hf]at h1;simp only[Bool.not_false,Bool.true_and,Bool.and_eq_false_iff,decide_eq_false_iff_not]at h1;rcases h1 with h1|h1
     ·exact .inr (.inr (.inr (.inr (.inr (.inr (.inr (.inl (by omega))))))))
     ·exact .inr (.inr (.inr (.inr (.inr (.inr (.inr (.inr (.inl (by omega)))))))))
   ·exact .inr (.inl e1)
  have HF:Hid ((sp0,0,1)=R):=by show _=_;rw[← HR.out,d_s HB.out]
  have hff:=Blk.free HS2.out.res;obtain⟨x0,x1,x2,x3⟩:=HS2.out.res.cells;have HRS:=Lib.hid (a_I HS2.out.res sp0).cells;have HBR:=Lib.hid (HS2.out.put sp0);go_wp2_with fail
  refine c_u (v:=c_g (sp0,0,1)) ?_ rfl ⟨by rw[HF.out],HBR.out⟩;obtain⟨q0,q1,q2,q3⟩:=HRS.out;simp[results,Tryz.results150,go_sem,q0,q1,q2,q3]
 |true=>
 by_cases h5:rt.drv=d.id
 case neg=>
  have e1:(rt.drv != d.id)=true:=by simpa using h5
  have HF:Hid ((sp0,0,1)=R):=by show _=_;rw[← HR.out,d_s (.inr (.inr (.inr (.inr (.inl h5)))))]
  have hff:=Blk.free HS2.out.res;obtain⟨x0,x1,x2,x3⟩:=HS2.out.res.cells;have HRS:=Lib.hid (a_I HS2.out.res sp0).cells;have HBR:=Lib.hid (HS2.out.put sp0);clear h5;go_wp2_with fail
  refine c_u (v:=c_g (sp0,0,1)) ?_ rfl ⟨by rw[HF.out],HBR.out⟩;obtain⟨q0,q1,q2,q3⟩:=HRS.out;simp[results,Tryz.results150,go_sem,q0,q1,q2,q3]
 have H5:=Lib.hid h5;have e5:(rt.drv != d.id)=false:=by simpa using h5
 clear h5;by_cases h6:rt.served<0
 ·have HF:Hid ((sp0,0,1)=R):=by show _=_;rw[← HR.out,d_s (.inr (.inr (.inr (.inr (.inr (.inl h6))))))]
  have hff:=Blk.free HS2.out.res;obtain⟨x0,x1,x2,x3⟩:=HS2.out.res.cells;have HRS:=Lib.hid (a_I HS2.out.res sp0).cells;have HBR:=Lib.hid (HS2.out.put sp0);go_wp2_with fail
  refine c_u (v:=c_g (sp0,0,1)) ?_ rfl ⟨by rw[HF.out],HBR.out⟩;obtain⟨q0,q1,q2,q3⟩:=HRS.out;simp[results,Tryz.results150,go_sem,q0,q1,q2,q3]
 by_cases h7:(xn:Int)<rt.served
 ·have HF:Hid ((sp0,0,1)=R):=by show _=_;rw[← HR.out,d_s (.inr (.inr (.inr (.inr (.inr (.inr (.inl (by rw[HL3.out];exact h7))))))))]
  have hff:=Blk.free HS2.out.res;obtain⟨x0,x1,x2,x3⟩:=HS2.out.res.cells;have HRS:=Lib.hid (a_I HS2.out.res sp0).cells;have HBR:=Lib.hid (HS2.out.put sp0);go_wp2_with fail
  refine c_u (v:=c_g (sp0,0,1)) ?_ rfl ⟨by rw[HF.out],HBR.out⟩;obtain⟨q0,q1,q2,q3⟩:=HRS.out;simp[results,Tryz.results150,go_sem,q0,q1,q2,q3]
 have HNN:Hid (¬ b_M m d os rt o b):=by
  have h1:=HT.out;unfold askM at h1;simp only[Bool.and_eq_true,decide_eq_true_eq,Bool.not_eq_true']at h1;obtain⟨h1,h2,h3,h4⟩:=h1;obtain⟨m',_,_,_,_,h8,h9⟩:=b_F HDR.out;rintro(h|h|h|h|h|h|h|h|h|h)
  ·exact h h9
  ·exact h h1
  ·rw[h8]at h;cases h
  ·rw[h2]at h;cases h
  ·exact h H5.out
  ·exact h6 h
  ·rw[HL3.out]at h;exact h7 h
  ·omega
  ·omega
  ·exact h HDR.out
 cases hrt:d.retired with
 |true=>
  rw[hrt]at d5;have HRT:=Lib.hid hrt;have HF:Hid ((sp0,0,23)=R):=by show _=_;rw[← HR.out];unfold g_L;rw[if_neg HNN.out,if_pos HRT.out]
  have hff:=Blk.free HS2.out.res;obtain⟨x0,x1,x2,x3⟩:=HS2.out.res.cells;have HRS:=Lib.hid (a_I HS2.out.res sp0).cells;have HBR:=Lib.hid (HS2.out.put sp0);clear hrt;go_wp2_with fail
  refine c_u (v:=c_g (sp0,0,23)) ?_ rfl ⟨by rw[HF.out],HBR.out⟩;obtain⟨q0,q1,q2,q3⟩:=HRS.out;simp[results,Tryz.results150,go_sem,q0,q1,q2,q3]
 |false=>
 rw[hrt]at d5;have HRT:=Lib.hid hrt;clear hrt;by_cases h78:78<xn
 ·have e1:(78:Int)<(xn:Int):=by omega
  have HF:Hid ((sp0,0,10)=R):=by show _=_;rw[← HR.out];unfold g_L;rw[if_neg HNN.out,if_neg (by rw[HRT.out];decide),if_pos (by rw[HL3.out];exact h78)]
  have hff:=Blk.free HS2.out.res;obtain⟨x0,x1,x2,x3⟩:=HS2.out.res.cells;have HRS:=Lib.hid (a_I HS2.out.res sp0).cells;have HBR:=Lib.hid (HS2.out.put sp0);go_wp2_with fail
  refine c_u (v:=c_g (sp0,0,10)) ?_ rfl ⟨by rw[HF.out],HBR.out⟩;obtain⟨q0,q1,q2,q3⟩:=HRS.out;simp[results,Tryz.results150,go_sem,q0,q1,q2,q3]
 have e78:¬(78:Int)<(xn:Int):=by omega
 have HBN:Hid (0≤b∧b≤100000):=by
  have h1:=HT.out;unfold askM at h1;simp only[Bool.and_eq_true,decide_eq_true_eq]at h1;exact h1.2.2
 obtain⟨bn,hbn⟩:∃bn:Nat,b=(bn:Int):=⟨b.toNat,by have:=HBN.out.1;omega⟩;subst hbn;have hbn1:bn≤100000:=by have:=HBN.out.2;omega
 obtain⟨sv,hsv⟩:∃sv:Nat,rt.served=(sv:Int):=⟨rt.served.toNat,by omega⟩;have HSV:=Lib.hid hsv;have hsl:sv≤xn:=by omega
 have HRF:Hid (d_S (stQ m d os o rt.stops bn (posL sv xn))=R):=by
  show _=_;rw[← HR.out];unfold g_L g_K;rw[if_neg HNN.out,if_neg (by rw[HRT.out];decide),if_neg (by rw[HL3.out];omega),hsv];unfold stQ;rw[m_I HL3.out.symm,HL3.out];rfl
 obtain⟨h41,h42⟩:(∃ m',m=some m')∧a_V m os=true:=by obtain⟨m',_,hm,_,_,h8,_⟩:=b_F HDR.out;exact⟨⟨m',hm⟩,h8⟩
 have hn40:n2≤40:=by rw[← HL2.out];exact(known_iff.1 h42).1
 have HID:Hid (d.id≠0):=by
  obtain⟨_,_,_,_,_,_,h9⟩:=b_F HDR.out;obtain⟨_,_,h10⟩:=drvE_ok.1 h9;have h11:=h10.id;intro h12;omega
 clear h41 h42 HNN HBN HDR HRT hsv;obtain⟨o0,o1,o2,o3,o4,o5,o6,o7,o8,o9⟩:=HS2.out.ord.cells;have hb2a:Below w2.heap.size w2 ((w2.alloc (.cells #[.int .i64 o.id,.int .i64 o.size,.int .i64 o.pick.place,.int .i64 o.pick.win.fr,.int .i64 o.pick.win.to,.int .i64 o.pick.serv,.int .i64 o.drop.place,.int .i64 o.drop.win.fr,.int .i64 o.drop.win.to,.int .i64 o.drop.serv] 31)).alloc (.cells #[.slice A2 n2 c2,.slice (some ⟨w2.heap.size,0,none⟩) 1 1] 40)):=((Below.refl _ _).alloc (Nat.le_refl _) _).alloc (by simp) _;have HB2A:=Lib.hid hb2a;have ha2:Blk (w2.alloc (.cells #[.int .i64 o.id,.int .i64 o.size,.int .i64 o.pick.place,.int .i64 o.pick.win.fr,.int .i64 o.pick.win.to,.int .i64 o.pick.serv,.int .i64 o.drop.place,.int .i64 o.drop.win.fr,.int .i64 o.drop.win.to,.int .i64 o.drop.serv] 31)) w2.heap.size 31 (ordL o):=Blk.new w2 _ _;have ha3:Blk ((w2.alloc (.cells #[.int .i64 o.id,.int .i64 o.size,.int .i64 o.pick.place,.int .i64 o.pick.win.fr,.int .i64 o.pick.win.to,.int .i64 o.pick.serv,.int .i64 o.drop.place,.int .i64 o.drop.win.fr,.int .i64 o.drop.win.to,.int .i64 o.drop.serv] 31)).alloc (.cells #[.slice A2 n2 c2,.slice (some ⟨w2.heap.size,0,none⟩) 1 1] 40)) w2.heap.size 31 (ordL o):=Blk.below ha2 ((Below.refl _ _).alloc (Nat.le_refl _) _) (Blk.lt ha2)
 have hx3:Blk ((w2.alloc (.cells #[.int .i64 o.id,.int .i64 o.size,.int .i64 o.pick.place,.int .i64 o.pick.win.fr,.int .i64 o.pick.win.to,.int .i64 o.pick.serv,.int .i64 o.drop.place,.int .i64 o.drop.win.fr,.int .i64 o.drop.win.to,.int .i64 o.drop.serv] 31)).alloc (.cells #[.slice A2 n2 c2,.slice (some ⟨w2.heap.size,0,none⟩) 1 1] 40)) (w2.heap.size+1) 40 ((c_L A2 n2 c2 os o w2.heap.size).map Part.val):=by
  have h1:=Blk.new (w2.alloc (.cells #[.int .i64 o.id,.int .i64 o.size,.int .i64 o.pick.place,.int .i64 o.pick.win.fr,.int .i64 o.pick.win.to,.int .i64 o.pick.serv,.int .i64 o.drop.place,.int .i64 o.drop.win.fr,.int .i64 o.drop.win.to,.int .i64 o.drop.serv] 31)) 40 [.slice A2 n2 c2,.slice (some ⟨w2.heap.size,0,none⟩) 1 1];rw[World.size_alloc]at h1;exact h1
 have HCB:=Lib.hid hx3;have hcp:=i_w (c:=c2) (Recs.more (Recs.keep HO.out (HS2.out.old.trans (hb2a.mono HS2.out.old.size))) (Nat.le_trans HS2.out.old.size hb2a.size)) ha3;have HCP:=Lib.hid hcp;clear ha2 ha3 hx3 hcp hb2a;go_wp2_with fail
 refine(l_u (w2.heap.size+1) 40 2 2 (c_L A2 n2 c2 os o w2.heap.size) _ (by exact HCB.out) rfl (by omega) (by exact HCP.out) (by rw[f_p];omega)).mono ?_;rintro e w3 ⟨v3,rfl,hb3,ho3⟩;rw[f_p,j_R]at ho3;obtain⟨A9,c9,rfl,hc9,hr9⟩:=ho3.read;have hb3a:=HB2A.out.trans (hb3.mono HB2A.out.size);have hb3b:Below w3.heap.size w3 (w3.alloc (.cells #[.slice A9 (n2+1) c9] 40)):=(Below.refl _ _).alloc (Nat.le_refl _) _;have HSX:=Lib.hid (HS2.out.next (hb3a.trans (hb3b.mono hb3a.size)));have HBX:Hid (Blk (w3.alloc (.cells #[.slice A9 (n2+1) c9] 40)) g1 3 [.int .i64 ov]):=Blk.below HBF2.out (hb3a.trans (hb3b.mono hb3a.size)) (Blk.lt HBF2.out);have HWX:Hid (Blk (w3.alloc (.cells #[.slice A9 (n2+1) c9] 40)) w3.heap.size 40 [.slice A9 (n2+1) c9]):=Blk.new w3 _ _;have HRW:Hid (Ords (w3.alloc (.cells #[.slice A9 (n2+1) c9] 40)) (w3.alloc (.cells #[.slice A9 (n2+1) c9] 40)).heap.size A9 (n2+1) (os++[o])):=Recs.more (Recs.keep hr9 hb3b) hb3b.size;have HNC:=Lib.hid hc9;clear HB2A HCB HCP hb3 ho3 hr9 hb3a hb3b hc9 HS2 HBF2 d0 d1 d2 d3 d4 d5 r0 r1 r2 o0 o1 o2 o3 o4 o5 o6 o7 o8 o9;go_upto_region 9 with fail
 obtain⟨gw,hgw⟩:∃g,w3.heap.size=g:=⟨_,rfl⟩;obtain⟨X,hX⟩:∃u,w3.alloc (.cells #[.slice A9 (n2+1) c9] 40)=u:=⟨_,rfl⟩;rw[hX]at HSX HBX HRW;rw[hgw,hX]at HWX;rw[hgw,hX];clear hgw hX;have hY0:Below X.heap.size X ((X.alloc (.cells #[.int .i64 0,.int .i64 0,.int .i64 0,.int .i64 0] 150)).alloc (.cells #[.int .i64 0] 3)):=((Below.refl _ _).alloc (Nat.le_refl _) _).alloc (by simp) _;have hY1:S4Box (X.alloc (.cells #[.int .i64 0,.int .i64 0,.int .i64 0,.int .i64 0] 150)) X.heap.size sp0:=Blk.new X _ _;have hY2:S4Box ((X.alloc (.cells #[.int .i64 0,.int .i64 0,.int .i64 0,.int .i64 0] 150)).alloc (.cells #[.int .i64 0] 3)) X.heap.size sp0:=Blk.below hY1 ((Below.refl _ _).alloc (Nat.le_refl _) _) (Blk.lt hY1)
 have hY3:Blk ((X.alloc (.cells #[.int .i64 0,.int .i64 0,.int .i64 0,.int .i64 0] 150)).alloc (.cells #[.int .i64 0] 3)) (X.heap.size+1) 3 [.int .i64 0]:=by
  have h1:=Blk.new (X.alloc (.cells #[.int .i64 0,.int .i64 0,.int .i64 0,.int .i64 0] 150)) 3 [.int .i64 0];rw[World.size_alloc]at h1;exact h1
 have hY4:((X.alloc (.cells #[.int .i64 0,.int .i64 0,.int .i64 0,.int .i64 0] 150)).alloc (.cells #[.int .i64 0] 3)).heap.size=X.heap.size+2:=by simp
 have HY0:=Lib.hid hY0;have HY2:=Lib.hid hY2;have HY3:=Lib.hid hY3;have HY4:=Lib.hid hY4;clear hY0 hY1 hY2 hY3 hY4;go_upto_region 10 with fail
 obtain⟨Y,hY⟩:∃u,(X.alloc (.cells #[.int .i64 0,.int .i64 0,.int .i64 0,.int .i64 0] 150)).alloc (.cells #[.int .i64 0] 3)=u:=⟨_,rfl⟩;rw[hY]at HY0 HY2 HY3 HY4;rw[hY];clear hY;have HSY:=Lib.hid (HSX.out.next HY0.out);obtain⟨r0,r1,r2⟩:=RBox.cells (x:=⟨rt,xa,xn,xc⟩) HSY.out.rte;refine(wpIn_wide (n:=9)).1 ?_;gi_wp2_with fail
 refine⟨trivial,?_⟩;refine(callsIn_wide.2 (q_Z ⟨rt,xa,xn,xc⟩ _)).mono ?_;rintro e w' ⟨rfl,rfl⟩;have hz:(Y.alloc (.cells #[.int .i64 rt.drv,.int .i64 rt.served,.slice xa xn xc] 37)).heap.size=X.heap.size+3:=by rw[World.size_alloc,HY4.out]
 have hzb:Below Y.heap.size Y (Y.alloc (.cells #[.int .i64 rt.drv,.int .i64 rt.served,.slice xa xn xc] 37)):=(Below.refl _ _).alloc (Nat.le_refl _) _;have hrb:RBox (Y.alloc (.cells #[.int .i64 rt.drv,.int .i64 rt.served,.slice xa xn xc] 37)) Y.heap.size ⟨rt,xa,xn,xc⟩:=Blk.new Y _ _;rw[HY4.out]at hrb;have hlp:LP X (none,0) (Y.alloc (.cells #[.int .i64 rt.drv,.int .i64 rt.served,.slice xa xn xc] 37)):=⟨HY0.out.trans (hzb.mono HY0.out.size),Blk.below HY2.out hzb (Blk.lt HY2.out),Blk.below HY3.out hzb (Blk.lt HY3.out),by rw[hz];omega⟩;have HZ:=Lib.hid hz;have HRB:=Lib.hid hrb;have HLP0:=Lib.hid hlp;have HY4':=HY4.out;clear hz hzb hrb hlp HY0 HY2 HY3 HSY r0 r1 r2;gi_wp2_with fail
 (try rw[HY4'])
 clear HY4' HY4;obtain⟨Z,hZ⟩:∃u,Y.alloc (.cells #[.int .i64 rt.drv,.int .i64 rt.served,.slice xa xn xc] 37)=u:=⟨_,rfl⟩;rw[hZ]at HZ HRB HLP0;rw[hZ];clear hZ;refine(wpIn_wide (n:=9)).1 ?_;gi_wp2_with fail
 refine wpIn_rangeFunc_ownG (α:=Nat×Nat) (w0:=Z) rfl (by omega) (gf:=242) (lb:=#[.pointer (some ⟨X.heap.size+2,0,none⟩)]) rfl trivial (enters_of Tryz.func242 (by kernel_rfl) rfl)
  (m_H _ (X.heap.size+2) (by omega) ⟨rt,xa,xn,xc⟩ sv HSV.out hsl (by show xn≤1000;omega) Z HRB.out) (fun h k=>KpB.trans h k) (fun W l o o' hl _ _ _=>World.putObj_heap_other (by have:=HZ.out;omega)) (Below.refl _ _) (fun _=>rfl)
  (fun pre W=>Named (stQ m d os o rt.stops bn pre).1∧LP X (stQ m d os o rt.stops bn pre) W)
  (fun c pre' W=>c=.exit 1∧∃pre p,pre'=pre++[p]∧bn≤(stQ m d os o rt.stops bn pre).2∧Named (stQ m d os o rt.stops bn pre).1∧LP X (stQ m d os o rt.stops bn pre) W)
  (fun s A B row hs hg hr=>⟨hs.1,LP.own (stQ m d os o rt.stops bn) X s A B row hs.2 hg (by rw[HZ.out]at hr;exact hr)⟩)
  (fun c s A B row hs hg hr=>by
    obtain⟨h1,pre,p,h2,h3,h4,h5⟩:=hs;exact⟨h1,pre,p,h2,h3,h4,LP.own (stQ m d os o rt.stops bn) X pre A B row h5 hg (by rw[HZ.out]at hr;exact hr)⟩)
  (by rw[s_A];exact⟨fun z hz=>(by cases hz),HLP0.out⟩) ?a1 ?assign ?body ?done ?stop
 case assign=>
  intro l x W K hK;gi_wp2
  exact hK
 case body=>
  rintro l pre ⟨i,j⟩ W ⟨hnm,hlp⟩ _;obtain⟨⟨bt,k⟩,hst⟩:∃s,stQ m d os o rt.stops bn pre=s:=⟨_,rfl⟩
  have hk:k≤bn:=by
   have h1:(stQ m d os o rt.stops bn pre).2≤bn:=o_x (Nat.zero_le _) _;rw[hst]at h1;exact h1
  have HST1:=Lib.hid hst;rw[hst]at hnm hlp;have HNM:Hid (Named bt):=hnm;have HLP:=Lib.hid hlp;clear hst hnm hlp HLP0;have hs0:W.cell? ⟨X.heap.size+1,0,none⟩=some (.int .i64 (k:Int)):=Blk.cell (i:=0) HLP.out.steps rfl;have hb0:=Blk.cell (i:=0) (HSX.out.next HLP.out.old).bud rfl;by_cases hf:bn≤k
  ·have e1:((k:Int)==(bn:Int))=true:=by rw[show k=bn by omega];simp
   gi_wp2
   exact⟨by rw[HZ.out];exact(K2.refl X W).from_,rfl,pre,⟨i,j,rfl⟩,by rw[HST1.out];exact hf,by rw[HST1.out];exact HNM.out,by rw[HST1.out];exact HLP.out⟩
  have e1:((k:Int)==(bn:Int))=false:=by simpa using(by omega:¬(k:Int)=(bn:Int))
  obtain⟨k1,hk1⟩:∃k1:Nat,k+1=k1:=⟨_,rfl⟩;have hks:(k:Int)+1=(k1:Int):=by omega
  have hkw:IntKind.i64.wrap (k1:Int)=(k1:Int):=IntWalk.i64_in _ (by omega);have HK1:=Lib.hid hk1
  have HNX:Hid (stQ m d os o rt.stops bn (pre++[(i,j)])=(a_u bt (h_1 m d os o rt.stops (i,j)),k1)):=by
   show _=_;rw[q_1 (by rw[HST1.out];show k<bn;omega),HST1.out,←hk1]
  have f5:=Blk.free HLP.out.steps 0;have HLP1:=Lib.hid (HLP.out.step k1);have HKK:Hid (K2 X W (W.setCell ⟨X.heap.size+1,0,none⟩ (.int .i64 (k1:Int)))):=K2.of_only (.inr rfl) ((Only.refl _ _).set _ _);have HMO:=Lib.hid HLP.out.more;clear hk1 HLP HST1;gi_upto_region 15 with fail
  clear hks hkw f5 hs0 hb0;obtain⟨u1,hu1⟩:∃u,W.setCell ⟨X.heap.size+1,0,none⟩ (.int .i64 (k1:Int))=u:=⟨_,rfl⟩;rw[hu1]at HLP1 HKK
  (try rw[hu1])
  clear hu1;obtain⟨l9,hl9⟩:∃y,putR rt.stops o.id ((i:Nat):Int) ((j:Nat):Int)=y:=⟨_,rfl⟩;obtain⟨nl,hnl⟩:∃y,l9.length=y:=⟨_,rfl⟩
  have hnl1:nl≤100:=by
   have h1:=f_W rt.stops o.id (i:Int) (j:Int);rw[hl9,hnl,HL3.out]at h1;omega
  have HL9:=Lib.hid hl9;have HNL:=Lib.hid hnl;obtain⟨cv,ck,hcv,hc1,hc0⟩:=q_3 (cost m d (os++[o]) l9);have HCV:=Lib.hid hcv;have HC1:=Lib.hid hc1;have HC0:=Lib.hid hc0;clear hl9 hnl hcv hc1 hc0;have HC:Hid (∀ u,Below u1.heap.size u1 u→PS w q d ⟨rt,xa,xn,xc⟩ o (bn:Int) u):=fun u hu=>(HSX.out.next HLP1.out.old).next hu
  have HWB:Hid (∀ u,Below u1.heap.size u1 u→u.cell? ⟨gw,0,none⟩=some (.slice A9 (n2+1) c9)):=fun u hu=>Blk.cell (i:=0) (Blk.below HWX.out (HLP1.out.old.trans (hu.mono HLP1.out.old.size)) (Blk.lt HWX.out)) rfl
  have HPT:Hid (∀ u,Below u1.heap.size u1 u→Calls Tryz.prog 157 #[.slice xa xn xc,.int .i64 o.id,.int .i64 ((i:Nat):Int),.int .i64 ((j:Nat):Int)] u fun en u'=>∃v,en=.returned v∧Below u.heap.size u u'∧OwnK u' u.heap.size 48 2 v nl (a_D l9)):=fun u hu=>by
   have h0:=(HC.out u hu).old;have h1:=gput_any xa xn xc rt.stops o.id (i:Int) (j:Int) u (Recs.more (Recs.keep HST.out h0) h0.size) hxc hr';rw[HL9.out,HNL.out]at h1;exact h1
  have HCS:Hid (∀ u A8 c8,nl≤c8→Recs u u.heap.size A8 nl 2 (a_D l9)→Below u1.heap.size u1 u→Calls Tryz.prog 144 #[.pointer q,drvV d,.slice A9 (n2+1) c9,.slice A8 nl c8] u fun en u'=>en=.returned (.tuple #[.int .i64 cv,.bool ck])∧Below u.heap.size u u'):=fun u A8 c8 hc8 hr8 hu=>by
   have h0:=(HC.out u hu).old;have h2:=HLP1.out.old.trans (hu.mono HLP1.out.old.size);have h1:=g_E base (.pointer q) m d A9 (n2+1) c9 (os++[o]) A8 nl c8 l9 u (HM.out.keep h0) (Recs.more (Recs.keep HRW.out h2) h2.size) hr8 hc8 HNC.out;rw[HCV.out]at h1;exact h1
  refine e_1 (rowsRF u1.heap.size 2 48 [91,92,93,94,95,96,97,98,99,100,101,90,102,103,22,23] [.pointer q,drvV d,.slice A9 (n2+1) c9,.pointer (some ⟨w.heap.size+2,2,none⟩),.slice xa xn xc,.pointer (some ⟨w.heap.size+3,0,none⟩),.int .i64 o.id,.int .i64 ((i:Nat):Int),.int .i64 ((j:Nat):Int),undef,.tuple #[.int .i64 cv,.bool ck],.tuple #[.int .i64 cv,.bool ck],.int .i64 cv,.bool ck,.int .i64 cv,.bool ck] [(9,nl,a_D l9)]) (by kernel_rfl) (by kernel_rfl) (by kernel_rfl) (by kernel_rfl) (fun _ _=>rfl) (by kernel_rfl) rowsRF.mon ?_ ?_
  ·refine⟨?_,?_,?_,?_,?_,?_,?_,?_,?_,?_,?_,?_,?_,?_,?_,?_,trivial⟩
   ·exact rowsRF.pureStep rfl 91 rfl rfl (by simp) _ rfl (by kernel_rfl) fun listed a u D hI hr hn=>a_f rfl (hI.out 6 (by kernel_rfl)) (run_load_mp (Blk.cell (HC.out _ (OneR.below_drew hI.old)).map rfl))
   ·exact rowsRF.pureStep rfl 92 rfl rfl (by simp) _ rfl (by kernel_rfl) fun listed a u D hI hr hn=>a_f rfl (hI.out 7 (by kernel_rfl)) (i_P (HC.out _ (OneR.below_drew hI.old)).drv)
   ·exact rowsRF.pureStep rfl 93 rfl rfl (by simp) _ rfl (by kernel_rfl) fun listed a u D hI hr hn=>a_f rfl (hI.out 17 (by kernel_rfl)) (run_load_os (HWB.out _ (OneR.below_drew hI.old)))
   ·exact rowsRF.pureStep rfl 94 rfl rfl (by simp) _ rfl (by kernel_rfl) fun listed a u D hI hr hn=>a_H rfl (hI.out 9 (by kernel_rfl)) (by simp[go_sem])
   ·exact rowsRF.pureStep rfl 95 rfl rfl (by simp) _ rfl (by kernel_rfl) fun listed a u D hI hr hn=>a_f rfl (rowsRF.val hI hr hn 3 (by kernel_rfl) rfl (by kernel_rfl) rfl) (e_b (RBox.cells (x:=⟨rt,xa,xn,xc⟩) (HC.out _ (OneR.below_drew hI.old)).rte).2.2)
   ·exact rowsRF.pureStep rfl 96 rfl rfl (by simp) _ rfl (by kernel_rfl) fun listed a u D hI hr hn=>a_H rfl (hI.out 10 (by kernel_rfl)) (by simp[go_sem])
   ·exact rowsRF.pureStep rfl 97 rfl rfl (by simp) _ rfl (by kernel_rfl) fun listed a u D hI hr hn=>a_f rfl (rowsRF.val hI hr hn 5 (by kernel_rfl) rfl (by kernel_rfl) rfl) (c_y (HC.out _ (OneR.below_drew hI.old)).ord.cells.1)
   ·exact rowsRF.pureStep rfl 98 rfl rfl (by simp) _ rfl (by kernel_rfl) fun listed a u D hI hr hn=>a_a (.inl rfl) (hI.out 20 (by kernel_rfl))
   ·exact rowsRF.pureStep rfl 99 rfl rfl (by simp) _ rfl (by kernel_rfl) fun listed a u D hI hr hn=>a_a (.inl rfl) (hI.out 21 (by kernel_rfl))
   ·refine rowsRF.callStep (n:=nl) (vs:=a_D l9) rfl 100 rfl rfl (by simp) (by kernel_rfl) (Nat.le_refl _) fun listed a u D hI hr hn=>⟨_,_,ins_call4 rfl (rowsRF.val hI hr hn 4 (by kernel_rfl) rfl (by kernel_rfl) rfl) (rowsRF.val hI hr hn 6 (by kernel_rfl) rfl (by kernel_rfl) rfl) (rowsRF.val hI hr hn 7 (by kernel_rfl) rfl (by kernel_rfl) rfl) (rowsRF.val hI hr hn 8 (by kernel_rfl) rfl (by kernel_rfl) rfl) (by simp[go_sem]),HPT.out _ (OneR.below_drew hI.old)⟩
   ·refine rowsRF.callV rfl 101 rfl rfl (by simp) _ rfl (by kernel_rfl) fun listed a u D hI hr hn=>?_
    obtain⟨A8,c8,e8,hc8,hr8⟩:=rowsRF.row (n:=nl) (vs:=a_D l9) hI hr hn 9 (by kernel_rfl) rfl (by kernel_rfl);exact⟨_,_,ins_call4 rfl (rowsRF.val hI hr hn 0 (by kernel_rfl) rfl (by kernel_rfl) rfl) (rowsRF.val hI hr hn 1 (by kernel_rfl) rfl (by kernel_rfl) rfl) (rowsRF.val hI hr hn 2 (by kernel_rfl) rfl (by kernel_rfl) rfl) e8 (by simp[go_sem]),HCS.out u A8 c8 hc8 hr8 (OneR.below_drew hI.old)⟩
   ·exact rowsRF.pureStep rfl 90 rfl rfl (by simp) _ rfl (by kernel_rfl) fun listed a u D hI hr hn=>a_a (.inl rfl) (rowsRF.val hI hr hn 10 (by kernel_rfl) rfl (by kernel_rfl) rfl)
   ·exact rowsRF.pureStep rfl 102 rfl rfl (by simp) _ rfl (by kernel_rfl) fun listed a u D hI hr hn=>exec_extract rfl (rowsRF.val hI hr hn 11 (by kernel_rfl) rfl (by kernel_rfl) rfl) rfl
   ·exact rowsRF.pureStep rfl 103 rfl rfl (by simp) _ rfl (by kernel_rfl) fun listed a u D hI hr hn=>exec_extract rfl (rowsRF.val hI hr hn 11 (by kernel_rfl) rfl (by kernel_rfl) rfl) rfl
   ·exact rowsRF.pureStep rfl 22 rfl rfl (by simp) _ rfl (by kernel_rfl) fun listed a u D hI hr hn=>a_a (.inr rfl) (rowsRF.val hI hr hn 12 (by kernel_rfl) rfl (by kernel_rfl) rfl)
   ·exact rowsRF.pureStep rfl 23 rfl rfl (by simp) _ rfl (by kernel_rfl) fun listed a u D hI hr hn=>a_a (.inr rfl) (rowsRF.val hI hr hn 13 (by kernel_rfl) rfl (by kernel_rfl) rfl)
  intro listed a u D hI hall;have eR0:a.tmps.getD 22 undef=.int .i64 cv:=(hI.fact 14 ⟨hall 14 (by simp),fun k hk=>by cases hk⟩).1;have eR1:a.tmps.getD 23 undef=.bool ck:=(hI.fact 15 ⟨hall 15 (by simp),fun k hk=>by cases hk⟩).1;have hold:=OneR.below_drew hI.old;have hl:=hI.fill [91,92,93,94,95,96,97,98,99,100,101,90,102,103,22,23] (by kernel_rfl);clear hI hall;obtain⟨σ,hσ⟩:∃σ:Nat→Value,∀t,a.tmps.getD t undef=σ t:=⟨_,fun _=>rfl⟩;simp only[hσ]at hl eR0 eR1;clear hσ;simp only[List.foldl_cons,List.foldl_nil,List.setIfInBounds_toArray,List.set_cons_zero,List.set_cons_succ,eR0,eR1]at hl;subst hl;have HLP2:=Lib.hid (HLP1.out.next hold);have HKK2:=Lib.hid (HKK.out.trans (K2.of_below (X:=X) hold));have HS2:=Lib.hid (HC.out u hold);have HBX2:Hid (Blk u g1 3 [.int .i64 ov]):=Blk.below HBX.out HLP2.out.old (Blk.lt HBX.out);clear hold HLP1 HKK HC HWB HPT HCS HNL;cases ck with
  |false=>
   have HNX2:Hid (stQ m d os o rt.stops bn (pre++[(i,j)])=(bt,k1)):=by
    show _=_;rw[HNX.out];have h2:h_1 m d os o rt.stops (i,j)=none:=by unfold h_1;rw[show putR rt.stops o.id ((i:Nat):Int) ((j:Nat):Int)=l9 from HL9.out,HC0.out rfl]
    rw[h2,f_f]
   clear HNX HC0 HC1 HCV HL9;gi_wp2_with fail
   exact⟨by rw[HZ.out];exact HKK2.out.from_,HKK2.out.kp HMO.out,by rw[HNX2.out];exact HNM.out,by rw[HNX2.out];exact HLP2.out⟩
  |true=>
   have hcs1:=HC1.out rfl;obtain⟨hv1,hv2⟩:=k_v HNR.out (show l9.length≤100 by have h1:=f_W rt.stops o.id (i:Int) (j:Int);rw[HL9.out,HL3.out]at h1;omega) hcs1;obtain⟨hw1,hw2⟩:=i_O (m:=m) (d:=d) (os:=os) (stops:=rt.stops) HNR.out (by rw[HL3.out];omega);rw[HOC.out]at hw1 hw2;obtain⟨pc,hpc⟩:∃z,cv-ov=z:=⟨_,rfl⟩;have hp1:-100000000≤pc:=by omega
   have hp2:pc≤100000000:=by omega
   have hpw:IntKind.i64.wrap pc=pc:=IntWalk.i64_in _ (by omega);obtain⟨z,hz⟩:∃z,bt.getD sp0=z:=⟨_,rfl⟩;obtain⟨y,hy⟩:∃y,(a_u bt (some ⟨d.id,(i:Int),(j:Int),pc⟩)).getD sp0=y:=⟨_,rfl⟩;have HY:=Lib.hid hy;have HCH:=Lib.hid (i_N bt z ⟨d.id,(i:Int),(j:Int),pc⟩ y HNM.out hz hy)
   have HNX2:Hid (stQ m d os o rt.stops bn (pre++[(i,j)])=(some y,k1)):=by
    show _=_;rw[HNX.out];have h2:h_1 m d os o rt.stops (i,j)=some ⟨d.id,(i:Int),(j:Int),pc⟩:=by unfold h_1;rw[show putR rt.stops o.id ((i:Nat):Int) ((j:Nat):Int)=l9 from HL9.out,hcs1,HOC.out,←hpc]
    rw[h2,←hy,←c_9]
   have HNM2:Hid (Named (some y)):=by
    show Named (some y);rw[← hy,←c_9];exact Named.better HNM.out fun z hz=>by injection hz with hz;rw[← hz];exact HID.out
   have hbx:S4Box u X.heap.size z:=by rw[← hz];exact HLP2.out.best
   obtain⟨a0,a1,a2,a3⟩:=hbx.cells;have b0:=Blk.cell (i:=0) HBX2.out rfl;obtain⟨d0,-⟩:=HS2.out.drv.cells;clear hcs1 hv1 hv2 hw1 hw2 hbx hy hz HNX HC0 HC1 HCV HL9 HNM;gi_wp2_with fail
   refine⟨trivial,?_⟩;refine(CallsIn.inRound l (callsIn_wide.2 (HCH.out u))).mono ?_;rintro e w5 ⟨rfl,hb5⟩;have HLP3:=Lib.hid (HLP2.out.next hb5);have HKK3:=Lib.hid (HKK2.out.trans (K2.of_below (X:=X) hb5));have HKK4:=Lib.hid (HKK3.out.trans (K2.of_only (X:=X) (.inl rfl) (d_K w5 X.heap.size y)));have HLP4:=Lib.hid (HLP3.out.put y);have hcsX:=a_c X.heap.size;have hff:=Blk.free HLP3.out.best;obtain⟨c0,c1,c2,c3⟩:=HLP3.out.best.cells;clear hb5 HLP2 HKK2 HLP3 HKK3 a0 a1 a2 a3 b0 d0 HCH HS2 HBX2;gi_wp2_with fail
   exact⟨by rw[HZ.out];exact HKK4.out.from_,HKK4.out.kp HMO.out,by rw[HNX2.out];exact HNM2.out,by rw[HNX2.out];exact HLP4.out⟩
 case done=>
  rintro D pq W hD hS ⟨hnm,hlp⟩ hK;have hfin:stQ m d os o rt.stops bn pq=stQ m d os o rt.stops bn (posL sv xn):=by rw[show pq=posL sv xn from hS]
  clear hS
  have HFT:Hid (d_S (stQ m d os o rt.stops bn pq)=R):=by
   show _=_;rw[← HRF.out];exact congrArg d_S hfin
  obtain⟨st,hst⟩:∃s,stQ m d os o rt.stops bn pq=s:=⟨_,rfl⟩;rw[hst]at HFT hnm hlp;obtain⟨z,hz⟩:∃z,st.1.getD sp0=z:=⟨_,rfl⟩;have HTD:=Lib.hid (k_u st z R hnm hz HFT.out);have hbx:S4Box W X.heap.size z:=by rw[← hz];exact hlp.best
  obtain⟨a0,a1,a2,a3⟩:=hbx.cells;have hs0:=Blk.cell (i:=0) hlp.steps rfl;have HSW:=Lib.hid (HSX.out.next hlp.old);have HD:=Lib.hid hD;have HK:=Lib.hid hK
  have HDW:Hid (w.heap.size+5<Z.heap.size):=by
   show _<_;have h1:=Blk.lt HSX.out.res;have h2:=HZ.out;omega
  clear hst hz hbx hlp hnm HFT hfin HSX HBX HWX HRW HRB HLP0 hK hD;gi_wp2_with fail
  go_wp2_with fail
  refine(HTD.out W).mono ?_;rintro e w7 ⟨rfl,hb7⟩;have HS7:=Lib.hid (HSW.out.next hb7);have hff:=Blk.free HS7.out.res;obtain⟨x0,x1,x2,x3⟩:=HS7.out.res.cells;have HK7:Hid (w7.heap[D]?=some (.deferred (some []))):=(hb7.block D (Array.getElem?_eq_some_iff.1 HK.out).1).trans HK.out;clear hb7 HSW HK HTD a0 a1 a2 a3 hs0;obtain⟨y,n1,e1⟩:=R;have HRS:=Lib.hid (a_I HS7.out.res y);have HBR:=Lib.hid (HS7.out.put y);go_wp2_with fail
  have hne:w.heap.size+5≠D:=by have h1:=HD.out;have h2:=HDW.out;omega
  have hle:w.heap.size≤D:=by have h1:=HD.out;have h2:=HDW.out;omega
  have hk9:(c_v w7 (w.heap.size+5) y).heap[D]?=some (.deferred (some [])):=((d_K w7 (w.heap.size+5) y).other D (Ne.symm hne)).trans HK7.out;have hbx9:S4Box ((c_v w7 (w.heap.size+5) y).putObj D (.deferred none)) (w.heap.size+5) y:=(World.putObj_heap_other hne).trans HRS.out;have hbr9:Below w.heap.size w ((c_v w7 (w.heap.size+5) y).putObj D (.deferred none)):=HBR.out.grown (grownBy_putObj' _ D _) HBR.out.size (fun k e=>by cases e;exact hle);refine e_T (v:=c_g (y,n1,e1)) (D:=D) rfl hk9 ?_ ⟨rfl,hbr9⟩;obtain⟨w9,hw9⟩:∃u,(c_v w7 (w.heap.size+5) y).putObj D (.deferred none)=u:=⟨_,rfl⟩;rw[hw9]at hbx9;show(results _ _).run _ ((c_v w7 (w.heap.size+5) y).putObj D (.deferred none))=.ok _ ((c_v w7 (w.heap.size+5) y).putObj D (.deferred none));rw[hw9];obtain⟨q0,q1,q2,q3⟩:=hbx9.cells;simp[results,Tryz.results150,go_sem,q0,q1,q2,q3]
 case stop=>
  rintro D c pre' W hD hSp ⟨rfl,pq,p,rfl,hfull,hnm,hlp⟩ hK;have hfin:stQ m d os o rt.stops bn pq=stQ m d os o rt.stops bn (posL sv xn):=(q_2 hfull ((List.prefix_append pq [p]).trans hSp)).symm;clear hfull hSp
  have HFT:Hid (d_S (stQ m d os o rt.stops bn pq)=R):=by
   show _=_;rw[← HRF.out];exact congrArg d_S hfin
  obtain⟨st,hst⟩:∃s,stQ m d os o rt.stops bn pq=s:=⟨_,rfl⟩;rw[hst]at HFT hnm hlp;obtain⟨z,hz⟩:∃z,st.1.getD sp0=z:=⟨_,rfl⟩;have HTD:=Lib.hid (k_u st z R hnm hz HFT.out);have hbx:S4Box W X.heap.size z:=by rw[← hz];exact hlp.best
  obtain⟨a0,a1,a2,a3⟩:=hbx.cells;have hs0:=Blk.cell (i:=0) hlp.steps rfl;have HSW:=Lib.hid (HSX.out.next hlp.old);have HD:=Lib.hid hD;have HK:=Lib.hid hK
  have HDW:Hid (w.heap.size+5<Z.heap.size):=by
   show _<_;have h1:=Blk.lt HSX.out.res;have h2:=HZ.out;omega
  clear hst hz hbx hlp hnm HFT hfin HSX HBX HWX HRW HRB HLP0 hK hD;gi_wp2_with fail
  go_wp2_with fail
  refine(HTD.out W).mono ?_;rintro e w7 ⟨rfl,hb7⟩;have HS7:=Lib.hid (HSW.out.next hb7);have hff:=Blk.free HS7.out.res;obtain⟨x0,x1,x2,x3⟩:=HS7.out.res.cells;have HK7:Hid (w7.heap[D]?=some (.deferred (some []))):=(hb7.block D (Array.getElem?_eq_some_iff.1 HK.out).1).trans HK.out;clear hb7 HSW HK HTD a0 a1 a2 a3 hs0;obtain⟨y,n1,e1⟩:=R;have HRS:=Lib.hid (a_I HS7.out.res y);have HBR:=Lib.hid (HS7.out.put y);go_wp2_with fail
  have hne:w.heap.size+5≠D:=by have h1:=HD.out;have h2:=HDW.out;omega
  have hle:w.heap.size≤D:=by have h1:=HD.out;have h2:=HDW.out;omega
  have hk9:(c_v w7 (w.heap.size+5) y).heap[D]?=some (.deferred (some [])):=((d_K w7 (w.heap.size+5) y).other D (Ne.symm hne)).trans HK7.out;have hbx9:S4Box ((c_v w7 (w.heap.size+5) y).putObj D (.deferred none)) (w.heap.size+5) y:=(World.putObj_heap_other hne).trans HRS.out;have hbr9:Below w.heap.size w ((c_v w7 (w.heap.size+5) y).putObj D (.deferred none)):=HBR.out.grown (grownBy_putObj' _ D _) HBR.out.size (fun k e=>by cases e;exact hle);refine e_T (v:=c_g (y,n1,e1)) (D:=D) rfl hk9 ?_ ⟨rfl,hbr9⟩;obtain⟨w9,hw9⟩:∃u,(c_v w7 (w.heap.size+5) y).putObj D (.deferred none)=u:=⟨_,rfl⟩;rw[hw9]at hbx9;show(results _ _).run _ ((c_v w7 (w.heap.size+5) y).putObj D (.deferred none))=.ok _ ((c_v w7 (w.heap.size+5) y).putObj D (.deferred none));rw[hw9];obtain⟨q0,q1,q2,q3⟩:=hbx9.cells;simp[results,Tryz.results150,go_sem,q0,q1,q2,q3]
end Insert
namespace Insert
open AuditMath Keep
structure CK(w:World)(o:FleetMath.Ord)(g:Nat)(s:Option Sp4)(u:World):Prop where
 cs:CS w o u
 far:w.heap.size+2≤g
 best:S4Box u g (s.getD sp0)
section
variable {w u u' : World} {o : FleetMath.Ord} {s t : Option Sp4} {g : Nat}
theorem CK.next(h:CK w o g s u)(hb:Below u.heap.size u u'):CK w o g s u':=⟨h.cs.next hb,h.far,Blk.below h.best hb (Blk.lt h.best)⟩
theorem CK.put(h:CK w o g s u)(y:Sp4):CK w o g (some y) (c_v u g y):=by
 have ho:=d_K u g y;exact⟨⟨h.cs.old.trans (ho.below.mono (by have:=h.far;omega)),ho.blk h.cs.ord (by have:=h.far;omega),ho.blk h.cs.res (by have:=h.far;omega)⟩,h.far,a_I h.best y⟩
end
theorem m_J{o:Oper}{a:Act}{u:World}{x y:Operand}{p q r:Int}{T:TypeId}(h:o.op=.binOp .sub 3 x y T)(hx:a.eval x=.int .i64 p)(hy:a.eval y=.int .i64 q)(hr:p-q=r∧IntKind.i64.wrap r=r):(execOp a.eval o).run Tryz.prog u=.ok (.value (.int .i64 r)) u:=by
 obtain⟨ρ,hρ⟩:∃ρ,a.eval=ρ:=⟨_,rfl⟩;rw[hρ]at hx hy ⊢;unfold execOp;rw[h];simp[go_sem,hx,hy,hr.1,hr.2]
theorem e_n(base:Nat)(pv:Value)(m:Option Mp)(A:Option Addr)(n c:Nat)(ds:List Drv)(A2:Option Addr)(n2 c2:Nat)(os:List FleetMath.Ord)(A3:Option Addr)(n3 c3:Nat)(l:List RM)(o:FleetMath.Ord)(b:Int)(w:World)
 (h:MapP w 92 base pv m) (hd:Drvs w w.heap.size A n ds) (ho:Ords w w.heap.size A2 n2 os) (hl:Plns w w.heap.size A3 n3 l) (hnc:n≤c) (hnc2:n2≤c2) (hnc3:n3≤c3) (hr:n2*80≤140737488351232):
 Calls Tryz.prog 91 #[pv,.slice A n c,.slice A2 n2 c2,.slice A3 n3 c3,ordV o,.int .i64 b] w (a_y w (c_g (a_2 m ds os (l.map (·.rt)) o b))):=by
 have hm:=Recs.le hl.rows;have HD:=Lib.hid hd;have HO:=Lib.hid ho;have HP:=Lib.hid hl;have HL:=Lib.hid hl.length;have HM:=Lib.hid h;obtain⟨R,hR⟩:∃R,a_2 m ds os (l.map (·.rt)) o b=R:=⟨_,rfl⟩;have HR:=Lib.hid hR;rw[hR];show Calls _ _ #[pv,.slice A n c,.slice A2 n2 c2,.slice A3 n3 c3,.agg #[.int .i64 o.id,.int .i64 o.size,.int .i64 o.pick.place,.int .i64 o.pick.win.fr,.int .i64 o.pick.win.to,.int .i64 o.pick.serv,.int .i64 o.drop.place,.int .i64 o.drop.win.fr,.int .i64 o.drop.win.to,.int .i64 o.drop.serv],.int .i64 b] _ _;have HS0:Hid (CS w o ((w.alloc (.cells #[.int .i64 o.id,.int .i64 o.size,.int .i64 o.pick.place,.int .i64 o.pick.win.fr,.int .i64 o.pick.win.to,.int .i64 o.pick.serv,.int .i64 o.drop.place,.int .i64 o.drop.win.fr,.int .i64 o.drop.win.to,.int .i64 o.drop.serv] 31)).alloc (.cells #[.int .i64 0,.int .i64 0,.int .i64 0,.int .i64 0] 150))):=CS.start
 obtain⟨q,hq⟩:∃q,pv=.pointer q:=by
  rcases h with⟨rfl,_⟩|⟨_,_,_,rfl,_⟩
  ·exact⟨_,rfl⟩
  ·exact⟨_,rfl⟩
 subst hq;obtain⟨M,hMK⟩:∃M,b_K m ds os (l.map (·.rt))=M:=⟨_,rfl⟩;have HMK:=Lib.hid hMK;obtain⟨mc,mk,me⟩:=M;clear h hd ho hl hR hMK;go_enter Tryz.func91,Tryz.ntmps91;go_upto_region 1 with fail
 obtain⟨u0,hu0⟩:∃u,((w.alloc (.cells #[.int .i64 o.id,.int .i64 o.size,.int .i64 o.pick.place,.int .i64 o.pick.win.fr,.int .i64 o.pick.win.to,.int .i64 o.pick.serv,.int .i64 o.drop.place,.int .i64 o.drop.win.fr,.int .i64 o.drop.win.to,.int .i64 o.drop.serv] 31)).alloc (.cells #[.int .i64 0,.int .i64 0,.int .i64 0,.int .i64 0] 150))=u:=⟨_,rfl⟩;rw[hu0]at HS0
 (try rw[hu0])
 clear hu0;go_wp2_with fail
 refine(f_N base (.pointer q) m A n c ds A2 n2 c2 os A3 n3 c3 l _ hnc hnc2 (by exact HM.out.keep HS0.out.old) (by exact Recs.more (Recs.keep HD.out HS0.out.old) HS0.out.old.size) (by exact Recs.more (Recs.keep HO.out HS0.out.old) HS0.out.old.size) (by exact(HP.out.keep HS0.out.old).more HS0.out.old.size)).mono ?_;rintro e z1 ⟨v1,l1,rfl,hmade⟩;rw[HMK.out];have HS1:=Lib.hid (HS0.out.next hmade.new.old);have HS1a:=Lib.hid (HS1.out.next ((Below.refl _ _).alloc (Nat.le_refl _) (.cells #[.int .i64 (mk:Int),.int .i64 me] 108)));have HFX:Hid (Blk (z1.alloc (.cells #[.int .i64 (mk:Int),.int .i64 me] 108)) z1.heap.size 108 [.int .i64 (mk:Int),.int .i64 me]):=Blk.new z1 _ _;clear hmade HS0 HS1;go_upto_region 2 with fail
 obtain⟨gf,hgf⟩:∃g,z1.heap.size=g:=⟨_,rfl⟩;obtain⟨u1,hu1⟩:∃u,z1.alloc (.cells #[.int .i64 (mk:Int),.int .i64 me] 108)=u:=⟨_,rfl⟩;rw[hgf,hu1]at HFX;rw[hu1]at HS1a;rw[hgf,hu1];clear hgf hu1;have hcs:=a_c (w.heap.size+1);have hfs:=a_d;have k0:=Blk.cell (i:=0) HFX.out rfl;have k1:=Blk.cell (i:=1) HFX.out rfl;go_wp2_with fail
 refine(o_W mk me _).mono ?_;rintro e w1 ⟨rfl,hb1⟩;have HS2:=Lib.hid (HS1a.out.next hb1);clear hb1 HS1a HFX k0 k1;by_cases hme:me=0
 case neg=>
  have e1:(me==0)=false:=by simpa using hme
  have HF:Hid ((sp0,0,1)=R):=by show _=_;rw[← HR.out];unfold a_2;rw[if_pos (.inl (by rw[HMK.out];exact hme))]
  have hff:=Blk.free HS2.out.res;obtain⟨x0,x1,x2,x3⟩:=HS2.out.res.cells;have HRS:=Lib.hid (a_I HS2.out.res sp0).cells;have HBR:=Lib.hid (HS2.out.put sp0);clear hme;go_wp2_with fail
  refine bodyPost_ret (v:=c_g (sp0,0,1)) ?_ rfl ⟨by rw[HF.out],HBR.out⟩;obtain⟨q0,q1,q2,q3⟩:=HRS.out;simp[results,Tryz.results91,go_sem,q0,q1,q2,q3]
 subst hme;obtain⟨t,ht⟩:∃t,askM m os o b=t:=⟨_,rfl⟩;have HT:=Lib.hid ht;clear ht;obtain⟨o0,o1,o2,o3,o4,o5,o6,o7,o8,o9⟩:=HS2.out.ord.cells;go_wp2_with fail
 refine(f_V base (.pointer q) m A2 n2 c2 os o b _ (by exact HM.out.keep HS2.out.old) (by exact Recs.more (Recs.keep HO.out HS2.out.old) HS2.out.old.size)).mono ?_;rintro e w2 ⟨rfl,hb2⟩;rw[HT.out];have HS3:=Lib.hid (HS2.out.next hb2);clear hb2 HS2 o0 o1 o2 o3 o4 o5 o6 o7 o8 o9;cases t with
 |false=>
  have HS2:=HS3
  have HB:Hid (b_f m ds os (l.map (·.rt)) o b):=by
   have h1:=HT.out;unfold askM at h1;unfold b_f;by_cases e1:ordE m o=0
   ·rw[decide_eq_true e1,Bool.true_and]at h1
    cases hf:(find os o.id).isSome with
    |true=>exact .inr (.inr (.inl rfl))
    |false=>
     rw[hf]at h1;simp only[Bool.not_false,Bool.true_and,Bool.and_eq_false_iff,decide_eq_false_iff_not]at h1;rcases h1 with h1|h1
     ·exact .inr (.inr (.inr (.inl (by omega))))
     ·exact .inr (.inr (.inr (.inr (by omega))))
   ·exact .inr (.inl e1)
  have HF:Hid ((sp0,0,1)=R):=by show _=_;rw[← HR.out];unfold a_2;rw[if_pos HB.out]
  have hff:=Blk.free HS2.out.res;obtain⟨x0,x1,x2,x3⟩:=HS2.out.res.cells;have HRS:=Lib.hid (a_I HS2.out.res sp0).cells;have HBR:=Lib.hid (HS2.out.put sp0);go_wp2_with fail
  refine bodyPost_ret (v:=c_g (sp0,0,1)) ?_ rfl ⟨by rw[HF.out],HBR.out⟩;obtain⟨q0,q1,q2,q3⟩:=HRS.out;simp[results,Tryz.results91,go_sem,q0,q1,q2,q3]
 |true=>
 have hnb:¬b_f m ds os (l.map (·.rt)) o b:=by
  have h1:=HT.out;unfold askM at h1;simp only[Bool.and_eq_true,decide_eq_true_eq,Bool.not_eq_true']at h1;obtain⟨h1,h2,h3,h4⟩:=h1;rintro(h|h|h|h|h)
  ·rw[HMK.out]at h;exact h rfl
  ·exact h h1
  ·rw[h2]at h;cases h
  ·omega
  ·omega
 have hF:=HR.out;unfold a_2 at hF;rw[if_neg hnb]at hF;obtain⟨⟨hwc,hdr⟩,-,-,hb1,hb2⟩:=e_S hnb;obtain⟨_,_,hd8,hkn,hrp,_,_⟩:=a_K hwc;obtain⟨bn,hbn⟩:∃bn:Nat,b=(bn:Int):=⟨b.toNat,by omega⟩;subst hbn;have hbn1:bn≤100000:=by omega
 have HNB:=Lib.hid hnb;have HDR:=Lib.hid hdr;have HRP:=Lib.hid hrp;obtain⟨S,hS⟩:∃S,goOn bn (none,0) ((l.map (·.rt)).flatMap (d_h m ds os o))=S:=⟨_,rfl⟩;have HF:Hid (d_S S=R):=by show _=_;rw[← hF,←hS];rfl
 have HSS:Hid (S=goOn bn (none,0) (((l.map (·.rt)).drop 0).flatMap (d_h m ds os o))):=by show _=_;rw[List.drop_zero,hS]
 have HK0:Hid (CK w o w2.heap.size none (w2.alloc (.cells #[.int .i64 0,.int .i64 0,.int .i64 0,.int .i64 0] 150))):=⟨HS3.out.next ((Below.refl _ _).alloc (Nat.le_refl _) _),HS3.out.size,Blk.new w2 _ _⟩;clear hF hS hnb hb1 hb2 hwc hdr hd8 hkn hrp HS3 HT HMK;go_upto_region 5 with fail
 obtain⟨g,hg⟩:∃g,w2.heap.size=g:=⟨_,rfl⟩;obtain⟨u2,hu2⟩:∃u,w2.alloc (.cells #[.int .i64 0,.int .i64 0,.int .i64 0,.int .i64 0] 150)=u:=⟨_,rfl⟩;rw[hg,hu2]at HK0;rw[hg,hu2];clear hg hu2;go_wp2_with fail
 go_loopw [18,47] (fun sv iv wr=>∃(k:Nat) (s:Srch),k≤n3∧sv=.int .i64 ((s.2:Nat):Int)∧iv=.int .i64 k∧Hid (CK w o g s.1 wr)∧Hid (S=goOn bn s (((l.map (·.rt)).drop k).flatMap (d_h m ds os o)))∧Hid (s.2≤bn)∧Hid (Named s.1)) (fun _ iv _=>n3-(intOf iv).toNat)
 case atStart=>exact⟨0,(none,0),Nat.zero_le _,rfl,rfl,HK0,HSS,Lib.hid (Nat.zero_le _),Lib.hid fun z hz=>(by cases hz)⟩
 case round=>
  clear HK0 HSS;obtain⟨k,⟨bt,k0⟩,hk,rfl,rfl,HS,HG,HSB,HNM⟩:=hrel;by_cases hlt:k<n3
  case neg=>
   have HE:Hid (S=(bt,k0)):=by
    show _=_;have h1:=HG.out;rw[List.drop_of_length_le (by rw[List.length_map,HL.out];omega),List.flatMap_nil,e_l]at h1;exact h1
   clear HG;obtain⟨z,hz⟩:∃z,bt.getD sp0=z:=⟨_,rfl⟩;have HTD:=Lib.hid (k_u (bt,k0) z R HNM.out hz (by rw[← HE.out];exact HF.out));have hbx:S4Box wr g z:=by rw[← hz];exact HS.out.best
   obtain⟨a0,a1,a2,a3⟩:=hbx.cells;clear hz hbx;go_wp2_with fail
   refine(HTD.out wr).mono ?_;rintro e w6 ⟨rfl,hb6⟩;have HS6:=Lib.hid (HS.out.cs.next hb6);clear hb6 HS HTD a0 a1 a2 a3;obtain⟨y,k1,k2⟩:=R;have hff:=Blk.free HS6.out.res;obtain⟨x0,x1,x2,x3⟩:=HS6.out.res.cells;have HRS:=Lib.hid (a_I HS6.out.res y).cells;have HBR:=Lib.hid (HS6.out.put y);go_wp2_with fail
   refine bodyPost_ret (v:=c_g (y,k1,k2)) ?_ rfl ⟨rfl,HBR.out⟩;obtain⟨q0,q1,q2,q3⟩:=HRS.out;simp[results,Tryz.results91,go_sem,q0,q1,q2,q3]
  obtain⟨pb,off,x,hA3,hbb,hx,hdr,c0,c1,c2',hst,hxc⟩:=(HP.out.keep HS.out.cs.old).at_ hlt;subst hA3;have hmem:x.rt∈l.map (·.rt):=List.mem_map.2 ⟨x,List.mem_of_getElem? hx,rfl⟩
  have HPD:Hid ((l.map (·.rt)).drop k=x.rt::(l.map (·.rt)).drop (k+1)):=by
   show _=_;rw[← List.map_drop,hdr,List.map_cons,List.map_drop]
  have HN:=Lib.hid (m_K HG.out HPD.out);obtain⟨hx80,-⟩:=k_w HRP.out hmem;rw[hst.length]at hx80;obtain⟨d,hdo,-⟩:=HDR.out x.rt hmem;have HDO:=Lib.hid hdo;have HST:=Lib.hid (HP.out.each x (List.mem_of_getElem? hx)).1;obtain⟨⟨y,n1,e1⟩,hbm⟩:∃z,g_L m d os x.rt o ((bn:Int)-(k0:Int))=z:=⟨_,rfl⟩;obtain⟨bx,j,hn1,hj,hgo,he0,he1,hnx⟩:=o_A HNB.out hmem hdo hbn1 (s:=(bt,k0)) HSB.out hbm;have HBM:=Lib.hid hbm;have HGO:=Lib.hid hgo;have HE0:=Lib.hid he0;have HE1:=Lib.hid he1;have HNX:=Lib.hid hnx;have HXC:=Lib.hid hxc;have hk0:k0≤bn:=HSB.out;clear hx hdr hst hmem HG hdo hbm hgo he0 he1 hnx hxc;subst hn1;have HS3:=Lib.hid (HS.out.next ((Below.refl _ _).alloc (Nat.le_refl _) (.cells #[.int .i64 x.rt.drv,.int .i64 x.rt.served,.slice x.a x.n x.c] 37)));have HX3:Hid (RBox (wr.alloc (.cells #[.int .i64 x.rt.drv,.int .i64 x.rt.served,.slice x.a x.n x.c] 37)) wr.heap.size x):=Blk.new wr _ _;go_upto_region 8 with fail
  obtain⟨gr,hgr⟩:∃g,wr.heap.size=g:=⟨_,rfl⟩;obtain⟨w3,hw3⟩:∃u,wr.alloc (.cells #[.int .i64 x.rt.drv,.int .i64 x.rt.served,.slice x.a x.n x.c] 37)=u:=⟨_,rfl⟩;rw[hgr]at HX3 ⊢;rw[hw3]at HS3 HX3
  (try rw[hw3])
  clear hw3 hgr HS c0 c1 c2';obtain⟨bk,hbk⟩:∃z:Int,(bn:Int)-(k0:Int)=z:=⟨_,rfl⟩;have HSU:Hid ((bn:Int)-(k0:Int)=bk∧IntKind.i64.wrap bk=bk):=⟨hbk,IntWalk.i64_in _ (by omega)⟩;clear hbk;have HRB:Hid (∀ u,Below w3.heap.size w3 u→RBox u gr x):=fun u hu=>HX3.out.below hu;have HOB:Hid (∀ u,Below w3.heap.size w3 u→OBox u w.heap.size o):=fun u hu=>(HS3.out.next hu).cs.ord
  have HDV:Hid (∀ u,Below w3.heap.size w3 u→Calls Tryz.prog 151 #[.slice A n c,.int .i64 x.rt.drv] u fun e w'=>e=.returned (drvV d)∧Below u.heap.size u w'):=fun u hu=>by
   have h1:=(HS3.out.next hu).cs.old;exact o_D A n c ds x.rt.drv d u (Recs.more (Recs.keep HD.out h1) h1.size) HDO.out
  have HBS:Hid (∀ u,Below w3.heap.size w3 u→Calls Tryz.prog 150 #[.pointer q,drvV d,.slice A2 n2 c2,rteV x,ordV o,.int .i64 bk] u fun e w'=>e=.returned (c_g (y,(j:Int),e1))∧Below u.heap.size u w'):=fun u hu=>by
   have h1:=(HS3.out.next hu).cs.old;have h2:=o_J base (.pointer q) m d A2 n2 c2 os x o bk u (HM.out.keep h1) (Recs.more (Recs.keep HO.out h1) h1.size) (Recs.more (Recs.keep HST.out h1) h1.size) HXC.out hnc2 hr (by omega);rw[← HSU.out.1,HBM.out]at h2;rw[HSU.out.1]at h2;exact h2
  go_cut [21,22,23] (fun pv nv ev wx=>∃gt,pv=.pointer (some ⟨gt,0,none⟩)∧nv=.int .i64 (j:Int)∧ev=.int .i64 e1∧Hid (Below w3.heap.size w3 wx)∧Hid (S4Box wx gt y))
  case first=>
   refine a_s (boxesRF [52,53,54,55,56,57,58,59,60,61,62,63,51,64,65,66,21,21,22,23] [.pointer q,.slice A n c,.pointer (some ⟨gr,0,none⟩),.int .i64 x.rt.drv,drvV d,.slice A2 n2 c2,rteV x,ordV o,.int .i64 (bn:Int),.int .i64 (k0:Int),.int .i64 bk,c_g (y,(j:Int),e1),c_g (y,(j:Int),e1),sp4V y,.int .i64 (j:Int),.int .i64 e1,undef,undef,.int .i64 (j:Int),.int .i64 e1] [⟨16,17,150,[.int .i64 0,.int .i64 0,.int .i64 0,.int .i64 0],[.int .i64 y.drv,.int .i64 y.pick,.int .i64 y.drop,.int .i64 y.cost]⟩]) (by kernel_rfl) (by kernel_rfl) (by kernel_rfl) (fun q hq=>boxesRF.free (by kernel_rfl) q hq) (by kernel_rfl) boxesRF.mon ?_ ?_
   ·refine⟨?_,?_,?_,?_,?_,?_,?_,?_,?_,?_,?_,?_,?_,?_,?_,?_,?_,?_,?_,?_,trivial⟩
    ·exact boxesRF.pureStep rfl 52 rfl rfl (by simp) (by kernel_rfl) (by kernel_rfl) _ rfl fun listed a u D hI hr hn=>a_a (.inl rfl) (hI.out 0 (by kernel_rfl))
    ·exact boxesRF.pureStep rfl 53 rfl rfl (by simp) (by kernel_rfl) (by kernel_rfl) _ rfl fun listed a u D hI hr hn=>a_a (.inl rfl) (hI.out 1 (by kernel_rfl))
    ·exact boxesRF.pureStep rfl 54 rfl rfl (by simp) (by kernel_rfl) (by kernel_rfl) _ rfl fun listed a u D hI hr hn=>a_H rfl (hI.out 20 (by kernel_rfl)) (by simp[go_sem])
    ·exact boxesRF.pureStep rfl 55 rfl rfl (by simp) (by kernel_rfl) (by kernel_rfl) _ rfl fun listed a u D hI hr hn=>a_f rfl (boxesRF.val hI hr hn 2 (by kernel_rfl) (by kernel_rfl) (by kernel_rfl) rfl rfl) (c_y (RBox.cells (HRB.out _ (OneR.below_drew hI.old))).1)
    ·exact boxesRF.callStep rfl 56 rfl rfl (by simp) (by kernel_rfl) (by kernel_rfl) _ rfl fun listed a u D hI hr hn=>⟨_,_,b_5 rfl (boxesRF.val hI hr hn 1 (by kernel_rfl) (by kernel_rfl) (by kernel_rfl) rfl rfl) (boxesRF.val hI hr hn 3 (by kernel_rfl) (by kernel_rfl) (by kernel_rfl) rfl rfl) (by simp[go_sem]),HDV.out _ (OneR.below_drew hI.old)⟩
    ·exact boxesRF.pureStep rfl 57 rfl rfl (by simp) (by kernel_rfl) (by kernel_rfl) _ rfl fun listed a u D hI hr hn=>a_a (.inl rfl) (hI.out 2 (by kernel_rfl))
    ·exact boxesRF.pureStep rfl 58 rfl rfl (by simp) (by kernel_rfl) (by kernel_rfl) _ rfl fun listed a u D hI hr hn=>a_f rfl (hI.out 20 (by kernel_rfl)) (k_x (RBox.cells (HRB.out _ (OneR.below_drew hI.old))))
    ·exact boxesRF.pureStep rfl 59 rfl rfl (by simp) (by kernel_rfl) (by kernel_rfl) _ rfl fun listed a u D hI hr hn=>a_f rfl (hI.out 10 (by kernel_rfl)) (Slack.run_load_ord (HOB.out _ (OneR.below_drew hI.old)))
    ·exact boxesRF.pureStep rfl 60 rfl rfl (by simp) (by kernel_rfl) (by kernel_rfl) _ rfl fun listed a u D hI hr hn=>a_a (.inl rfl) (hI.out 5 (by kernel_rfl))
    ·exact boxesRF.pureStep rfl 61 rfl rfl (by simp) (by kernel_rfl) (by kernel_rfl) _ rfl fun listed a u D hI hr hn=>a_a (.inl rfl) (hI.out 18 (by kernel_rfl))
    ·exact boxesRF.pureStep rfl 62 rfl rfl (by simp) (by kernel_rfl) (by kernel_rfl) _ rfl fun listed a u D hI hr hn=>m_J rfl (boxesRF.val hI hr hn 8 (by kernel_rfl) (by kernel_rfl) (by kernel_rfl) rfl rfl) (boxesRF.val hI hr hn 9 (by kernel_rfl) (by kernel_rfl) (by kernel_rfl) rfl rfl) HSU.out
    ·exact boxesRF.callStep rfl 63 rfl rfl (by simp) (by kernel_rfl) (by kernel_rfl) _ rfl fun listed a u D hI hr hn=>⟨_,_,o_M rfl (boxesRF.val hI hr hn 0 (by kernel_rfl) (by kernel_rfl) (by kernel_rfl) rfl rfl) (boxesRF.val hI hr hn 4 (by kernel_rfl) (by kernel_rfl) (by kernel_rfl) rfl rfl) (boxesRF.val hI hr hn 5 (by kernel_rfl) (by kernel_rfl) (by kernel_rfl) rfl rfl) (boxesRF.val hI hr hn 6 (by kernel_rfl) (by kernel_rfl) (by kernel_rfl) rfl rfl) (boxesRF.val hI hr hn 7 (by kernel_rfl) (by kernel_rfl) (by kernel_rfl) rfl rfl) (boxesRF.val hI hr hn 10 (by kernel_rfl) (by kernel_rfl) (by kernel_rfl) rfl rfl) (by simp[go_sem]),HBS.out _ (OneR.below_drew hI.old)⟩
    ·exact boxesRF.pureStep rfl 51 rfl rfl (by simp) (by kernel_rfl) (by kernel_rfl) _ rfl fun listed a u D hI hr hn=>a_a (.inl rfl) (boxesRF.val hI hr hn 11 (by kernel_rfl) (by kernel_rfl) (by kernel_rfl) rfl rfl)
    ·exact boxesRF.pureStep rfl 64 rfl rfl (by simp) (by kernel_rfl) (by kernel_rfl) _ rfl fun listed a u D hI hr hn=>a_6 rfl (boxesRF.val hI hr hn 12 (by kernel_rfl) (by kernel_rfl) (by kernel_rfl) rfl rfl) rfl
    ·exact boxesRF.pureStep rfl 65 rfl rfl (by simp) (by kernel_rfl) (by kernel_rfl) _ rfl fun listed a u D hI hr hn=>a_6 rfl (boxesRF.val hI hr hn 12 (by kernel_rfl) (by kernel_rfl) (by kernel_rfl) rfl rfl) rfl
    ·exact boxesRF.pureStep rfl 66 rfl rfl (by simp) (by kernel_rfl) (by kernel_rfl) _ rfl fun listed a u D hI hr hn=>a_6 rfl (boxesRF.val hI hr hn 12 (by kernel_rfl) (by kernel_rfl) (by kernel_rfl) rfl rfl) rfl
    ·exact boxesRF.allocStep rfl 21 rfl rfl (by simp) (b:=⟨16,17,150,[.int .i64 0,.int .i64 0,.int .i64 0,.int .i64 0],[.int .i64 y.drv,.int .i64 y.pick,.int .i64 y.drop,.int .i64 y.cost]⟩) (by kernel_rfl) fun a u=>o_L rfl
    ·exact boxesRF.storeStep (b:=⟨16,17,150,[.int .i64 0,.int .i64 0,.int .i64 0,.int .i64 0],[.int .i64 y.drv,.int .i64 y.pick,.int .i64 y.drop,.int .i64 y.cost]⟩) rfl rfl (by kernel_rfl) (by kernel_rfl) (by kernel_rfl) rfl rfl rfl (by kernel_rfl) fun listed a u D hI hr hn g e1 hb=>⟨_,b_m rfl e1 (boxesRF.val hI hr hn 13 (by kernel_rfl) (by kernel_rfl) (by kernel_rfl) rfl rfl) (i_Q hb y),((((Only.refl _ _).set _ _).set _ _).set _ _).set _ _,q_4 hb y⟩
    ·exact boxesRF.pureStep rfl 22 rfl rfl (by simp) (by kernel_rfl) (by kernel_rfl) _ rfl fun listed a u D hI hr hn=>a_a (.inr rfl) (boxesRF.val hI hr hn 14 (by kernel_rfl) (by kernel_rfl) (by kernel_rfl) rfl rfl)
    ·exact boxesRF.pureStep rfl 23 rfl rfl (by simp) (by kernel_rfl) (by kernel_rfl) _ rfl fun listed a u D hI hr hn=>a_a (.inr rfl) (boxesRF.val hI hr hn 15 (by kernel_rfl) (by kernel_rfl) (by kernel_rfl) rfl rfl)
   ·intro listed a u D hI hall
    obtain⟨gt,eB,hbx⟩:=boxesRF.box hI hall (b:=⟨16,17,150,[.int .i64 0,.int .i64 0,.int .i64 0,.int .i64 0],[.int .i64 y.drv,.int .i64 y.pick,.int .i64 y.drop,.int .i64 y.cost]⟩) 17 (by decide) (by kernel_rfl) (by kernel_rfl) (s:=21) rfl;have eC:a.tmps.getD 22 undef=.int .i64 (j:Int):=(hI.fact 18 ⟨hall 18 (by simp),fun k hk=>by simp[boxesRF,BoxD.made]at hk⟩).1;have eD:a.tmps.getD 23 undef=.int .i64 e1:=(hI.fact 19 ⟨hall 19 (by simp),fun k hk=>by simp[boxesRF,BoxD.made]at hk⟩).1;have hold:=OneR.below_drew hI.old;have hl:=hI.fill [52,53,54,55,56,57,58,59,60,61,62,63,51,64,65,66,21,22,23] (by kernel_rfl);clear hI hall;obtain⟨σ,hσ⟩:∃σ:Nat→Value,∀t,a.tmps.getD t undef=σ t:=⟨_,fun _=>rfl⟩;simp only[hσ]at hl eB eC eD;clear hσ;simp only[List.foldl_cons,List.foldl_nil,List.setIfInBounds_toArray,List.set_cons_zero,List.set_cons_succ,eB,eC,eD]at hl;subst hl;go_wp2_with fail
    go_meet
    exact⟨gt,rfl,rfl,rfl,hold,hbx⟩
  case rest=>
  obtain⟨gt,rfl,rfl,rfl,hb4,Y4⟩:=hcut;obtain⟨w4,rfl⟩:∃u,u=wc:=⟨_,rfl⟩;have HS4:=Lib.hid (HS3.out.next hb4.out);clear hb4 HS3 HX3 HRB HOB HDV HBS HSU HBM;obtain⟨k1,hk1⟩:∃k1:Nat,k0+j=k1:=⟨_,rfl⟩;have hks:(k0:Int)+(j:Int)=(k1:Int):=by omega
  have hkw:IntKind.i64.wrap (k1:Int)=(k1:Int):=IntWalk.i64_in _ (by omega);have HB1:Hid (k1≤bn):=by show _≤_;omega
  have HG1:Hid (S=goOn bn (a_u bt bx,k1) (((l.map (·.rt)).drop (k+1)).flatMap (d_h m ds os o))):=by
   show _=_;have h1:=HN.out;rw[HGO.out,show k0+j=k1 from hk1]at h1;exact h1
  clear hk1 hj HN HGO;by_cases he:e1=0
  ·have hbx:bx=some y:=HE0.out he
   subst hbx;subst he;obtain⟨z,hz⟩:∃z,bt.getD sp0=z:=⟨_,rfl⟩;obtain⟨r,hrr⟩:∃r,(a_u bt (some y)).getD sp0=r:=⟨_,rfl⟩;have HCH:=Lib.hid (i_N bt z y r HNM.out hz hrr)
   have HG2:Hid (S=goOn bn (some r,k1) (((l.map (·.rt)).drop (k+1)).flatMap (d_h m ds os o))):=by
    show _=_;rw[← hrr,←c_9];exact HG1.out
   have HNM2:Hid (Named (some r)):=by
    show Named (some r);rw[← hrr,←c_9];exact Named.better HNM.out HNX.out
   have hbz:S4Box w4 g z:=by rw[← hz];exact HS4.out.best
   obtain⟨a0,a1,a2,a3⟩:=hbz.cells;obtain⟨y0,y1,y2,y3⟩:=S4Box.cells Y4.out;clear hz hrr hbz HG1 HNM HNX HE0 HE1;go_wp2_with fail
   refine(HCH.out w4).mono ?_;rintro e w5 ⟨rfl,hb5⟩;have HS5:=Lib.hid (HS4.out.next hb5);have HS6:=Lib.hid (HS5.out.put r);have hcg:=a_c g;have hff:=Blk.free HS5.out.best;obtain⟨b0,b1,b2,b3⟩:=HS5.out.best.cells;clear hb5 HS4 HS5 HCH Y4 a0 a1 a2 a3 y0 y1 y2 y3;go_wp2_with fail
   go_roundw
   case rel=>exact⟨k+1,(some r,k1),by omega,by go_num,by go_num,HS6,HG2,HB1,HNM2⟩
   case measure=>simp[intOf];omega
  ·have hbx:bx=none:=HE1.out he
   subst hbx;have e1':(e1==0)=false:=by simpa using he
   have HG2:Hid (S=goOn bn (bt,k1) (((l.map (·.rt)).drop (k+1)).flatMap (d_h m ds os o))):=HG1.out;clear he HG1 HNX HE0 HE1 Y4;go_wp2_with fail
   go_roundw
   case rel=>exact⟨k+1,(bt,k1),by omega,by go_num,by go_num,HS4,HG2,HB1,HNM⟩
   case measure=>simp[intOf];omega
end Insert
end Go.Proofs.YtkpnmpjnpcjohaaGreat
