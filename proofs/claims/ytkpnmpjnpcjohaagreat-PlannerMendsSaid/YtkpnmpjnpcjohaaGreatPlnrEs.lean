import Derived.Test.YtkpnmpjnpcjohaaGreatPlnrDs
import Derived.Test.YtkpnmpjnpcjohaaGreatRepairCs
set_option linter.unusedSimpArgs false
set_option linter.unusedVariables false
set_option maxHeartbeats 8000000
set_option maxRecDepth 100000
namespace Go.Proofs.YtkpnmpjnpcjohaaGreat
open ChangeShapes WideShapes ChangeAt RowKit Mem GeoMath FleetMath PlanMath CertMath AuditMath InsertMath RepairMath PlannerMath Rec Geo Span Deal Keep Plan Cert Audit Go.Proofs.YtkpnmpjnpcjohaaGreat.Insert
namespace Pln
theorem c_2(base:Nat)(q:Option Addr)(m:Option Mp)(x:Bv)(b:Bk)(ps:List RM)(o:FleetMath.Ord)(n:Int)(w:World)(h:MapP w 92 base (.pointer q) m)(hx:BkR w w.heap.size x b ps):
 Calls Tryz.prog 11 #[.pointer q,bkV x,ordV o,.int .i64 n] w (BkOk w (b_d m b o n)):=by
 have HS:=Lib.hid (PW.start w q m base x b ps o h hx);have hon:=hx.on;clear h hx;go_enter Tryz.func11,Tryz.ntmps11;go_upto_region 1 with fail
 try simp only[World.size_alloc,Nat.add_assoc,Nat.reduceAdd]
 obtain⟨X,hX⟩:∃u,(((w.alloc (.cells #[x.ds.v,x.os.v,x.pl.v] 42)).alloc (.cells #[.int .i64 o.id,.int .i64 o.size,.int .i64 o.pick.place,.int .i64 o.pick.win.fr,.int .i64 o.pick.win.to,.int .i64 o.pick.serv,.int .i64 o.drop.place,.int .i64 o.drop.win.fr,.int .i64 o.drop.win.to,.int .i64 o.drop.serv] 31)).alloc (.cells #[.slice none 0 0,.slice none 0 0,.slice none 0 0] 42))=u:=⟨_,rfl⟩;rw[hX]at HS ⊢;clear hX;obtain⟨c0,c1,c2⟩:=HS.out.pc.arg.cells;go_wp2_with fail
 obtain⟨r1,hr1⟩:∃r,a_q m b=r:=⟨_,rfl⟩;refine(pright_any base q m x b ps r1 _ (by exact HS.out.pc.mp) (by exact HS.out.pc.read) hr1).mono ?_;rintro e w1 ⟨rfl,hb1⟩;have HS1:=Lib.hid (HS.out.next hb1);have HR1:=Lib.hid hr1;clear hb1 hr1 HS c0 c1 c2;cases r1 with
 |false=>
  have HG:Hid ((bk0,(1:Int))=b_d m b o n):=by show _=_;unfold b_d;rw[if_pos (.inl HR1.out)]
  obtain⟨y0,y1,y2⟩:=HS1.out.pc.res.cells;have hff:=Blk.free HS1.out.pc.res;have HRS:=Lib.hid (a_i HS1.out.pc.res);have HBR:=Lib.hid (a_r (g:=w.heap.size+2) HS1.out.pc.old (by omega));go_wp2_with fail
  refine bodyPost_ret (v:=.tuple #[.agg #[.slice none 0 0,.slice none 0 0,.slice none 0 0],.int .i64 1]) ?_ rfl (a_A HG.out HBR.out);obtain⟨q0,q1,q2⟩:=HRS.out;simp[results,Tryz.results11,go_sem,q0,q1,q2]
 |true=>
 obtain⟨z1,z2,z3,z4,z5⟩:=a_9 HR1.out;have HAO:Hid (AscO b.os):=(a_w HR1.out).2.2.2.2.2;go_wp2_with fail
 refine(d_A n _).mono ?_;rintro e w1' ⟨rfl,rfl⟩;by_cases hbn:0≤n∧n≤100000
 case neg=>
  rw[decide_eq_false hbn];have HG:Hid ((bk0,(1:Int))=b_d m b o n):=by show _=_;unfold b_d;rw[if_pos (.inr (by omega))]
  clear hbn;obtain⟨y0,y1,y2⟩:=HS1.out.pc.res.cells;have hff:=Blk.free HS1.out.pc.res;have HRS:=Lib.hid (a_i HS1.out.pc.res);have HBR:=Lib.hid (a_r (g:=w.heap.size+2) HS1.out.pc.old (by omega));go_wp2_with fail
  refine bodyPost_ret (v:=.tuple #[.agg #[.slice none 0 0,.slice none 0 0,.slice none 0 0],.int .i64 1]) ?_ rfl (a_A HG.out HBR.out);obtain⟨q0,q1,q2⟩:=HRS.out;simp[results,Tryz.results11,go_sem,q0,q1,q2]
 rw[decide_eq_true hbn];have HN1:Hid (¬ (a_q m b=false∨n<0∨100000<n)):=by show ¬_;rw[HR1.out];rintro(h|h|h)<;>first|cases h|omega
 clear hbn;obtain⟨g0,g1,g2,g3,g4,g5,g6,g7,g8,g9⟩:=HS1.out.ord.cells;obtain⟨t,ht⟩:∃t,ordE m o=t:=⟨_,rfl⟩;have HT:=Lib.hid ht;go_wp2_with fail
 refine(e_Q base (.pointer q) m o _ (by exact HS1.out.pc.mp)).mono ?_;rintro e w2 ⟨rfl,hb2⟩;rw[ht];have HS2:=Lib.hid (HS1.out.next hb2);clear hb2 ht HS1 g0 g1 g2 g3 g4 g5 g6 g7 g8 g9;by_cases ht0:t=0
 case neg=>
  have e1:(t==0)=false:=by simpa using ht0
  have HG:Hid ((bk0,t)=b_d m b o n):=by show _=_;unfold b_d;rw[if_neg HN1.out,if_pos (by rw[HT.out];exact ht0),HT.out]
  clear ht0;obtain⟨y0,y1,y2⟩:=HS2.out.pc.res.cells;have hff:=Blk.free HS2.out.pc.res;have HRS:=Lib.hid (a_i HS2.out.pc.res);have HBR:=Lib.hid (a_r (g:=w.heap.size+2) HS2.out.pc.old (by omega));go_wp2_with fail
  refine bodyPost_ret (v:=.tuple #[.agg #[.slice none 0 0,.slice none 0 0,.slice none 0 0],.int .i64 t]) ?_ rfl (a_A HG.out HBR.out);obtain⟨q0,q1,q2⟩:=HRS.out;simp[results,Tryz.results11,go_sem,q0,q1,q2]
 subst ht0;obtain⟨c0,c1,c2⟩:=HS2.out.pc.arg.cells;obtain⟨g0,_⟩:=HS2.out.ord.cells;obtain⟨tk,htk⟩:∃t,(find b.os o.id).isSome=t:=⟨_,rfl⟩;have HTK:=Lib.hid htk;go_wp2_with fail
 refine(plisted_any x b ps o.id _ (by exact HS2.out.pc.read) (by omega) HAO.out).mono ?_;rintro e w3 ⟨rfl,hb3⟩;rw[htk];have HS3:=Lib.hid (HS2.out.next hb3);clear hb3 htk HS2 c0 c1 c2 g0;cases tk with
 |true=>
  have HG:Hid ((bk0,(9:Int))=b_d m b o n):=by show _=_;unfold b_d;rw[if_neg HN1.out,if_neg (by rw[HT.out];decide),if_pos HTK.out]
  obtain⟨y0,y1,y2⟩:=HS3.out.pc.res.cells;have hff:=Blk.free HS3.out.pc.res;have HRS:=Lib.hid (a_i HS3.out.pc.res);have HBR:=Lib.hid (a_r (g:=w.heap.size+2) HS3.out.pc.old (by omega));go_wp2_with fail
  refine bodyPost_ret (v:=.tuple #[.agg #[.slice none 0 0,.slice none 0 0,.slice none 0 0],.int .i64 9]) ?_ rfl (a_A HG.out HBR.out);obtain⟨q0,q1,q2⟩:=HRS.out;simp[results,Tryz.results11,go_sem,q0,q1,q2]
 |false=>
 obtain⟨c0,c1,c2⟩:=HS3.out.pc.arg.cells;by_cases h40:x.os.n=40
 case pos=>
  have e1:((x.os.n:Int)==40)=true:=by rw[h40];rfl
  have HG:Hid ((bk0,(10:Int))=b_d m b o n):=by show _=_;unfold b_d;rw[if_neg HN1.out,if_neg (by rw[HT.out];decide),if_neg (by rw[HTK.out];decide),if_pos (by omega)]
  clear h40;obtain⟨y0,y1,y2⟩:=HS3.out.pc.res.cells;have hff:=Blk.free HS3.out.pc.res;have HRS:=Lib.hid (a_i HS3.out.pc.res);have HBR:=Lib.hid (a_r (g:=w.heap.size+2) HS3.out.pc.old (by omega));go_wp2_with fail
  refine bodyPost_ret (v:=.tuple #[.agg #[.slice none 0 0,.slice none 0 0,.slice none 0 0],.int .i64 10]) ?_ rfl (a_A HG.out HBR.out);obtain⟨q0,q1,q2⟩:=HRS.out;simp[results,Tryz.results11,go_sem,q0,q1,q2]
 have e1:((x.os.n:Int)==40)=false:=by simp;omega
 obtain⟨⟨nb,k,e0⟩,hZ⟩:∃z,g_n m b o n=z:=⟨_,rfl⟩;have HZ:=Lib.hid hZ
 have HPM:Hid (b_d m b o n=match a_2 m b.ds b.os b.pl o n with
  |(s,_,e)=>if e≠0 then(bk0,e)else b_H m b ⟨b.ds,b_w b.os o,(b_U b.pl o.id ⟨s.drv,s.pick,s.drop⟩).getD []⟩):=by
  show _=_;unfold b_d;rw[if_neg HN1.out,if_neg (by rw[HT.out];decide),if_neg (by rw[HTK.out];decide),if_neg (by omega)]
 have HPL:Hid (b_d m b o n=if e0≠0 then(bk0,e0)else b_H m b nb):=by
  show _=_;rw[HPM.out];have h1:=HZ.out;unfold g_n at h1;obtain⟨⟨s,k1,e1⟩,hc⟩:∃z,a_2 m b.ds b.os b.pl o n=z:=⟨_,rfl⟩;rw[hc]at h1 ⊢;simp only at h1 ⊢;by_cases he:e1≠0
  ·rw[if_pos he]at h1 ⊢;injection h1 with h1 h2;injection h2 with h2 h3;rw[← h3,if_pos he]
  ·rw[if_neg he]at h1 ⊢;injection h1 with h1 h2;injection h2 with h2 h3;rw[← h3,if_neg (by decide),←h1]
 obtain⟨g0,g1,g2,g3,g4,g5,g6,g7,g8,g9⟩:=HS3.out.ord.cells;clear hZ HPM;go_wp2_with fail
 refine(h_w base q m x b ps o n _ (by exact HS3.out.pc.mp) (by exact HS3.out.pc.read) z2 HAO.out).mono ?_;rintro e w4 ⟨y4,ps4,rfl,hb4,hk4⟩;rw[HZ.out]at hk4 ⊢;have HS4:=Lib.hid (HS3.out.next hb4);have HK4:=Lib.hid hk4;clear hb4 hk4 HS3 c0 c1 c2 g0 g1 g2 g3 g4 g5 g6 g7 g8 g9 e1 h40;go_upto_region 12 with fail
 have b5:Below w4.heap.size w4 (w4.alloc (.cells #[y4.ds.v,y4.os.v,y4.pl.v] 42)):=(Below.refl _ _).alloc (Nat.le_refl _) _;have HS5:=Lib.hid (HS4.out.next b5);have HX5:=Lib.hid (BBox.new w4 42 y4);have HK5:=Lib.hid (HK4.out.next b5);obtain⟨W,hW⟩:∃u,w4.alloc (.cells #[y4.ds.v,y4.os.v,y4.pl.v] 42)=u:=⟨_,rfl⟩;obtain⟨gs,hgs⟩:∃g,w4.heap.size=g:=⟨_,rfl⟩;rw[hW]at HS5 HX5 HK5 ⊢;rw[hgs]at HX5 ⊢;clear hW hgs HS4 HK4 b5;by_cases he0:e0=0
 case neg=>
  have e1:(e0==0)=false:=by simpa using he0
  have HG:Hid ((bk0,e0)=b_d m b o n):=by show _=_;rw[HPL.out,if_pos he0]
  clear he0;obtain⟨y0,y1,y2⟩:=HS5.out.pc.res.cells;have hff:=Blk.free HS5.out.pc.res;have HRS:=Lib.hid (a_i HS5.out.pc.res);have HBR:=Lib.hid (a_r (g:=w.heap.size+2) HS5.out.pc.old (by omega));go_wp2_with fail
  refine bodyPost_ret (v:=.tuple #[.agg #[.slice none 0 0,.slice none 0 0,.slice none 0 0],.int .i64 e0]) ?_ rfl (a_A HG.out HBR.out);obtain⟨q0,q1,q2⟩:=HRS.out;simp[results,Tryz.results11,go_sem,q0,q1,q2]
 subst he0;obtain⟨d0,d1,d2⟩:=HX5.out.cells;have HGA:Hid (b_d m b o n=b_H m b nb):=by show _=_;rw[HPL.out,if_neg (by decide)]
 obtain⟨c0,c1,c2⟩:=HS5.out.pc.arg.cells;go_wp2_with fail
 refine(d_C base q m x b ps y4 nb ps4 _ (by exact HS5.out.pc.mp) (by exact HS5.out.pc.read) (by exact HK5.out)).mono ?_;rintro e wg ⟨y,psn,rfl,hng⟩;have HSG:=Lib.hid (HS5.out.next hng.old);have HBN:=Lib.hid (c_H (x:=y) HS5.out.pc.old HS5.out.pc.res hng (by omega));have hsg:=HSG.out;obtain⟨y0,y1,y2⟩:=HSG.out.pc.res.cells;have hff:=Blk.free HSG.out.pc.res;have HRS:=Lib.hid (a_t HSG.out.pc.res y);clear hng HS5 hsg c0 c1 c2;go_wp2_with fail
 refine bodyPost_ret (v:=.tuple #[bkV y,.int .i64 (b_H m b nb).2]) ?_ rfl (by rw[HGA.out];exact⟨y,psn,rfl,HBN.out⟩);obtain⟨q0,q1,q2⟩:=HRS.out;simp[results,Tryz.results11,go_sem,q0,q1,q2]
theorem g_r(base:Nat)(q:Option Addr)(m:Option Mp)(x:Bv)(b:Bk)(ps:List RM)(i:Int)(w:World)(h:MapP w 92 base (.pointer q) m)(hx:BkR w w.heap.size x b ps)(hiw:(Lit.int .i64 i).wf=true):
 Calls Tryz.prog 14 #[.pointer q,bkV x,.int .i64 i] w (BkOk w (d_w m b i)):=by
 have HS:Hid (PC w q m base w.heap.size (w.heap.size+1) x b ps ((w.alloc (.cells #[x.ds.v,x.os.v,x.pl.v] 42)).alloc (.cells #[.slice none 0 0,.slice none 0 0,.slice none 0 0] 42))):=by
  refine⟨((Below.refl _ _).alloc (Nat.le_refl _) _).alloc (by simp) _,h,hx,(BBox.new w _ x).below ((Below.refl _ _).alloc (Nat.le_refl _) _),?_⟩;have:=BBox.new (w.alloc (.cells #[x.ds.v,x.os.v,x.pl.v] 42)) 42 bv0;simpa using this
 have hon:=hx.on;have hdn:=hx.dn;have hpn:=hx.pn;clear h hx;go_enter Tryz.func14,Tryz.ntmps14;go_upto_region 1 with fail
 try simp only[World.size_alloc,Nat.add_assoc,Nat.reduceAdd]
 obtain⟨X,hX⟩:∃u,((w.alloc (.cells #[x.ds.v,x.os.v,x.pl.v] 42)).alloc (.cells #[.slice none 0 0,.slice none 0 0,.slice none 0 0] 42))=u:=⟨_,rfl⟩;rw[hX]at HS ⊢;clear hX;obtain⟨c0,c1,c2⟩:=HS.out.arg.cells;go_wp2_with fail
 obtain⟨r1,hr1⟩:∃r,a_q m b=r:=⟨_,rfl⟩;refine(pright_any base q m x b ps r1 _ (by exact HS.out.mp) (by exact HS.out.read) hr1).mono ?_;rintro e w1 ⟨rfl,hb1⟩;have HS1:=Lib.hid (HS.out.next hb1);have HR1:=Lib.hid hr1;clear hb1 hr1 HS c0 c1 c2;cases r1 with
 |false=>
  have HG:Hid ((bk0,(1:Int))=d_w m b i):=by show _=_;unfold d_w;rw[if_pos HR1.out]
  obtain⟨y0,y1,y2⟩:=HS1.out.res.cells;have hff:=Blk.free HS1.out.res;have HRS:=Lib.hid (a_i HS1.out.res);have HBR:=Lib.hid (a_r (g:=w.heap.size+1) HS1.out.old (by omega));go_wp2_with fail
  refine bodyPost_ret (v:=.tuple #[.agg #[.slice none 0 0,.slice none 0 0,.slice none 0 0],.int .i64 1]) ?_ rfl (a_A HG.out HBR.out);obtain⟨q0,q1,q2⟩:=HRS.out;simp[results,Tryz.results14,go_sem,q0,q1,q2]
 |true=>
 obtain⟨z1,z2,z3,z4,z5⟩:=a_9 HR1.out;have HAO:Hid (AscO b.os):=(a_w HR1.out).2.2.2.2.2;have HDM:=Lib.hid (r_B (i:=i) HR1.out);obtain⟨c0,c1,c2⟩:=HS1.out.arg.cells;obtain⟨tk,htk⟩:∃t,(find b.os i).isSome=t:=⟨_,rfl⟩;have HTK:=Lib.hid htk;go_wp2_with fail
 refine(plisted_any x b ps i _ (by exact HS1.out.read) (by omega) HAO.out).mono ?_;rintro e w3 ⟨rfl,hb3⟩;rw[htk];have HS3:=Lib.hid (HS1.out.next hb3);clear hb3 htk HS1 c0 c1 c2;cases tk with
 |false=>
  have HG:Hid ((bk0,(8:Int))=d_w m b i):=by show _=_;rw[HDM.out,if_pos HTK.out]
  obtain⟨y0,y1,y2⟩:=HS3.out.res.cells;have hff:=Blk.free HS3.out.res;have HRS:=Lib.hid (a_i HS3.out.res);have HBR:=Lib.hid (a_r (g:=w.heap.size+1) HS3.out.old (by omega));go_wp2_with fail
  refine bodyPost_ret (v:=.tuple #[.agg #[.slice none 0 0,.slice none 0 0,.slice none 0 0],.int .i64 8]) ?_ rfl (a_A HG.out HBR.out);obtain⟨q0,q1,q2⟩:=HRS.out;simp[results,Tryz.results14,go_sem,q0,q1,q2]
 |true=>
 have HS4:=Lib.hid (HS3.out.next ((Below.refl _ _).alloc (Nat.le_refl _) (.cells #[.int .i64 i] 3)))
 have HI4:Hid (Ints (w3.alloc (.cells #[.int .i64 i] 3)) (w3.alloc (.cells #[.int .i64 i] 3)).heap.size (some ⟨w3.heap.size,0,none⟩) 1 [i]):=by
  refine⟨rfl,by decide,fun _=>⟨w3.heap.size,0,rfl,by simp,fun j u hj=>?_⟩⟩;have hbk:=Blk.new w3 3 (b_l [i]);rw[Nat.zero_add];exact hbk.cell hj
 obtain⟨c0,c1,c2⟩:=HS3.out.arg.cells;clear HS3;go_wp2_with fail
 refine(j_k m x b ps (some ⟨w3.heap.size,0,none⟩) 1 1 [i] _ (by exact HS4.out.read) HR1.out (by exact HI4.out) (fun z hz=>by rw[List.mem_singleton.1 hz];exact hiw)).mono ?_;rintro e w4 ⟨y4,ps4,⟨oa,on,oc,ohc⟩,rfl,hb4,hk4,ho4,hrest⟩;clear hrest;have HS5:=Lib.hid (HS4.out.next hb4);have HK4:=Lib.hid hk4;have HOL:=Lib.hid (Ords.length ho4);clear hb4 hk4 ho4 HS4 HI4 c0 c1 c2;go_upto_region 7 with fail
 have b5:Below w4.heap.size w4 (w4.alloc (.cells #[y4.ds.v,y4.os.v,y4.pl.v] 42)):=(Below.refl _ _).alloc (Nat.le_refl _) _;have HS6:=Lib.hid (HS5.out.next b5);have HX5:=Lib.hid (BBox.new w4 42 y4);have HK5:=Lib.hid (HK4.out.next b5);obtain⟨W,hW⟩:∃u,w4.alloc (.cells #[y4.ds.v,y4.os.v,y4.pl.v] 42)=u:=⟨_,rfl⟩;obtain⟨gs,hgs⟩:∃g,w4.heap.size=g:=⟨_,rfl⟩;rw[hW]at HS6 HX5 HK5 ⊢;rw[hgs]at HX5 ⊢;clear hW hgs HS5 HK4 b5;by_cases h0:on=0
 case pos=>
  subst h0;have HG:Hid ((bk0,(22:Int))=d_w m b i):=by show _=_;rw[HDM.out,if_neg (by rw[HTK.out];decide),if_pos (List.eq_nil_of_length_eq_zero HOL.out)]
  obtain⟨y0,y1,y2⟩:=HS6.out.res.cells;have hff:=Blk.free HS6.out.res;have HRS:=Lib.hid (a_i HS6.out.res);have HBR:=Lib.hid (a_r (g:=w.heap.size+1) HS6.out.old (by omega));go_wp2_with fail
  refine bodyPost_ret (v:=.tuple #[.agg #[.slice none 0 0,.slice none 0 0,.slice none 0 0],.int .i64 22]) ?_ rfl (a_A HG.out HBR.out);obtain⟨q0,q1,q2⟩:=HRS.out;simp[results,Tryz.results14,go_sem,q0,q1,q2]
 have e1:((on:Int)==0)=false:=by simp;omega
 have HGA:Hid (d_w m b i=b_H m b ⟨b.ds,inM b [i],a_b b.pl [i]⟩):=by
  show _=_;rw[HDM.out,if_neg (by rw[HTK.out];decide),if_neg (fun e=>h0 (by rw[← HOL.out,e];rfl))]
 clear h0;obtain⟨d0,d1,d2⟩:=HX5.out.cells;obtain⟨c0,c1,c2⟩:=HS6.out.arg.cells;go_wp2_with fail
 refine(d_C base q m x b ps y4 ⟨b.ds,inM b [i],a_b b.pl [i]⟩ ps4 _ (by exact HS6.out.mp) (by exact HS6.out.read) (by exact HK5.out)).mono ?_;rintro e wg ⟨y,psn,rfl,hng⟩;have HSG:=Lib.hid (HS6.out.next hng.old);have HBN:=Lib.hid (c_H (x:=y) HS6.out.old HS6.out.res hng (by omega));have hsg:=HSG.out;obtain⟨y0,y1,y2⟩:=HSG.out.res.cells;have hff:=Blk.free HSG.out.res;have HRS:=Lib.hid (a_t HSG.out.res y);clear hng HS6 hsg c0 c1 c2;go_wp2_with fail
 refine bodyPost_ret (v:=.tuple #[bkV y,.int .i64 (b_H m b ⟨b.ds,inM b [i],a_b b.pl [i]⟩).2]) ?_ rfl (by rw[HGA.out];exact⟨y,psn,rfl,HBN.out⟩);obtain⟨q0,q1,q2⟩:=HRS.out;simp[results,Tryz.results14,go_sem,q0,q1,q2]
structure PH(w:World)(q:Option Addr)(m:Option Mp)(base:Nat)(x:Bv)(b:Bk)(ps:List RM)(d:Drv)(u:World):Prop where
 pc:PC w q m base w.heap.size (w.heap.size+2) x b ps u
 drv:DBox u (w.heap.size+1) d
theorem PH.next{w u u':World}{q:Option Addr}{m:Option Mp}{base:Nat}{x:Bv}{b:Bk}{ps:List RM}{d:Drv}(h:PH w q m base x b ps d u)(hb:Below u.heap.size u u'):PH w q m base x b ps d u':=⟨h.pc.next hb,h.drv.below hb⟩
theorem PH.start(w:World)(q:Option Addr)(m:Option Mp)(base:Nat)(x:Bv)(b:Bk)(ps:List RM)(d:Drv)(h:MapP w 92 base (.pointer q) m)(hx:BkR w w.heap.size x b ps):PH w q m base x b ps d (((w.alloc (.cells #[x.ds.v,x.os.v,x.pl.v] 42)).alloc (.cells #[.int .i64 d.id,.int .i64 d.room,.int .i64 d.home,.int .i64 d.win.fr,.int .i64 d.win.to,.bool d.retired] 33)).alloc (.cells #[.slice none 0 0,.slice none 0 0,.slice none 0 0] 42)):=by
 refine⟨⟨(((Below.refl _ _).alloc (Nat.le_refl _) _).alloc (by simp) _).alloc (by simp;omega) _,h,hx,(BBox.new w _ x).below ?_,?_⟩,?_⟩
 ·exact((Below.refl _ _).alloc (Nat.le_refl _) _).alloc (by simp) _
 ·have:=BBox.new ((w.alloc (.cells #[x.ds.v,x.os.v,x.pl.v] 42)).alloc (.cells #[.int .i64 d.id,.int .i64 d.room,.int .i64 d.home,.int .i64 d.win.fr,.int .i64 d.win.to,.bool d.retired] 33)) 42 bv0
  simpa using this
 ·have:=(show DBox ((w.alloc (.cells #[x.ds.v,x.os.v,x.pl.v] 42)).alloc (.cells #[.int .i64 d.id,.int .i64 d.room,.int .i64 d.home,.int .i64 d.win.fr,.int .i64 d.win.to,.bool d.retired] 33)) (w.alloc (.cells #[x.ds.v,x.os.v,x.pl.v] 42)).heap.size d from Blk.new _ _ _).below ((Below.refl _ _).alloc (Nat.le_refl _) (.cells #[.slice none 0 0,.slice none 0 0,.slice none 0 0] 42))
  simpa using this
theorem j_l(base:Nat)(q:Option Addr)(m:Option Mp)(x:Bv)(b:Bk)(ps:List RM)(d:Drv)(w:World)(h:MapP w 92 base (.pointer q) m)(hx:BkR w w.heap.size x b ps):
 Calls Tryz.prog 16 #[.pointer q,bkV x,drvV d] w (BkOk w (c_M m b d)):=by
 have HS:=Lib.hid (PH.start w q m base x b ps d h hx);have HDN:=Lib.hid hx.dn;clear h hx;go_enter Tryz.func16,Tryz.ntmps16;go_upto_region 1 with fail
 try simp only[World.size_alloc,Nat.add_assoc,Nat.reduceAdd]
 obtain⟨X,hX⟩:∃u,(((w.alloc (.cells #[x.ds.v,x.os.v,x.pl.v] 42)).alloc (.cells #[.int .i64 d.id,.int .i64 d.room,.int .i64 d.home,.int .i64 d.win.fr,.int .i64 d.win.to,.bool d.retired] 33)).alloc (.cells #[.slice none 0 0,.slice none 0 0,.slice none 0 0] 42))=u:=⟨_,rfl⟩;rw[hX]at HS ⊢;clear hX;obtain⟨c0,c1,c2⟩:=HS.out.pc.arg.cells;go_wp2_with fail
 obtain⟨r1,hr1⟩:∃r,a_q m b=r:=⟨_,rfl⟩;refine(pright_any base q m x b ps r1 _ (by exact HS.out.pc.mp) (by exact HS.out.pc.read) hr1).mono ?_;rintro e w1 ⟨rfl,hb1⟩;have HS1:=Lib.hid (HS.out.next hb1);have HR1:=Lib.hid hr1;clear hb1 hr1 HS c0 c1 c2;cases r1 with
 |false=>
  have HG:Hid ((bk0,(1:Int))=c_M m b d):=by show _=_;unfold c_M;rw[if_pos HR1.out]
  obtain⟨y0,y1,y2⟩:=HS1.out.pc.res.cells;have hff:=Blk.free HS1.out.pc.res;have HRS:=Lib.hid (a_i HS1.out.pc.res);have HBR:=Lib.hid (a_r (g:=w.heap.size+2) HS1.out.pc.old (by omega));go_wp2_with fail
  refine bodyPost_ret (v:=.tuple #[.agg #[.slice none 0 0,.slice none 0 0,.slice none 0 0],.int .i64 1]) ?_ rfl (a_A HG.out HBR.out);obtain⟨q0,q1,q2⟩:=HRS.out;simp[results,Tryz.results16,go_sem,q0,q1,q2]
 |true=>
 obtain⟨z1,z2,z3,z4,z5⟩:=a_9 HR1.out;have HAD:Hid (AscD b.ds):=(a_w HR1.out).2.2.2.2.1;have HN1:Hid (¬ a_q m b=false):=by show ¬_;rw[HR1.out];decide
 obtain⟨g0,g1,g2,g3,g4,g5⟩:=HS1.out.drv.cells;obtain⟨t,ht⟩:∃t,drvE m d=t:=⟨_,rfl⟩;have HT:=Lib.hid ht;go_wp2_with fail
 refine(d_5 base (.pointer q) m d _ (by exact HS1.out.pc.mp)).mono ?_;rintro e w2 ⟨rfl,hb2⟩;rw[ht];have HS2:=Lib.hid (HS1.out.next hb2);clear hb2 ht HS1 g0 g1 g2 g3 g4 g5;by_cases ht0:t=0
 case neg=>
  have e1:(t==0)=false:=by simpa using ht0
  have HG:Hid ((bk0,t)=c_M m b d):=by show _=_;unfold c_M;rw[if_neg HN1.out,if_pos (by rw[HT.out];exact ht0),HT.out]
  clear ht0;obtain⟨y0,y1,y2⟩:=HS2.out.pc.res.cells;have hff:=Blk.free HS2.out.pc.res;have HRS:=Lib.hid (a_i HS2.out.pc.res);have HBR:=Lib.hid (a_r (g:=w.heap.size+2) HS2.out.pc.old (by omega));go_wp2_with fail
  refine bodyPost_ret (v:=.tuple #[.agg #[.slice none 0 0,.slice none 0 0,.slice none 0 0],.int .i64 t]) ?_ rfl (a_A HG.out HBR.out);obtain⟨q0,q1,q2⟩:=HRS.out;simp[results,Tryz.results16,go_sem,q0,q1,q2]
 subst ht0;obtain⟨c0,c1,c2⟩:=HS2.out.pc.arg.cells;obtain⟨g0,_⟩:=HS2.out.drv.cells;obtain⟨tk,htk⟩:∃t,(a_o b.ds d.id).isSome=t:=⟨_,rfl⟩;obtain⟨k,hk⟩:∃k,atD b.ds d.id=k:=⟨_,rfl⟩;have hkl:k≤b.ds.length:=by rw[← hk];unfold atD;exact(List.takeWhile_prefix _).length_le
 have HTK:=Lib.hid htk;have HKK:=Lib.hid hk;go_wp2_with fail
 refine(phired_any x b ps d.id _ (by exact HS2.out.pc.read) (by omega) HAD.out).mono ?_;rintro e w3 ⟨rfl,hb3⟩;rw[htk,hk];have HS3:=Lib.hid (HS2.out.next hb3);clear hb3 htk hk HS2 c0 c1 c2 g0;obtain⟨g0,g1,g2,g3,g4,g5⟩:=HS3.out.drv.cells;obtain⟨rt,hrt⟩:∃t,d.retired=t:=⟨_,rfl⟩;have HRT:=Lib.hid hrt;rw[hrt]at g5;clear hrt;cases rt with
 |true=>
  have HG:Hid ((bk0,(23:Int))=c_M m b d):=by show _=_;unfold c_M;rw[if_neg HN1.out,if_neg (by rw[HT.out];decide),if_pos HRT.out]
  obtain⟨y0,y1,y2⟩:=HS3.out.pc.res.cells;have hff:=Blk.free HS3.out.pc.res;have HRS:=Lib.hid (a_i HS3.out.pc.res);have HBR:=Lib.hid (a_r (g:=w.heap.size+2) HS3.out.pc.old (by omega));go_wp2_with fail
  refine bodyPost_ret (v:=.tuple #[.agg #[.slice none 0 0,.slice none 0 0,.slice none 0 0],.int .i64 23]) ?_ rfl (a_A HG.out HBR.out);obtain⟨q0,q1,q2⟩:=HRS.out;simp[results,Tryz.results16,go_sem,q0,q1,q2]
 |false=>
 have HN2:Hid (¬ d.retired=true):=by show ¬_;rw[HRT.out];decide
 cases tk with
 |true=>
  have HG:Hid ((bk0,(9:Int))=c_M m b d):=by show _=_;unfold c_M;rw[if_neg HN1.out,if_neg (by rw[HT.out];decide),if_neg HN2.out,if_pos HTK.out]
  obtain⟨y0,y1,y2⟩:=HS3.out.pc.res.cells;have hff:=Blk.free HS3.out.pc.res;have HRS:=Lib.hid (a_i HS3.out.pc.res);have HBR:=Lib.hid (a_r (g:=w.heap.size+2) HS3.out.pc.old (by omega));go_wp2_with fail
  refine bodyPost_ret (v:=.tuple #[.agg #[.slice none 0 0,.slice none 0 0,.slice none 0 0],.int .i64 9]) ?_ rfl (a_A HG.out HBR.out);obtain⟨q0,q1,q2⟩:=HRS.out;simp[results,Tryz.results16,go_sem,q0,q1,q2]
 |false=>
 obtain⟨c0,c1,c2⟩:=HS3.out.pc.arg.cells;by_cases h8:x.ds.n=8
 case pos=>
  have e1:((x.ds.n:Int)==8)=true:=by rw[h8];rfl
  have HG:Hid ((bk0,(10:Int))=c_M m b d):=by show _=_;unfold c_M;rw[if_neg HN1.out,if_neg (by rw[HT.out];decide),if_neg HN2.out,if_neg (by rw[HTK.out];decide),if_pos (by have:=HDN.out;omega)]
  clear h8;obtain⟨y0,y1,y2⟩:=HS3.out.pc.res.cells;have hff:=Blk.free HS3.out.pc.res;have HRS:=Lib.hid (a_i HS3.out.pc.res);have HBR:=Lib.hid (a_r (g:=w.heap.size+2) HS3.out.pc.old (by omega));go_wp2_with fail
  refine bodyPost_ret (v:=.tuple #[.agg #[.slice none 0 0,.slice none 0 0,.slice none 0 0],.int .i64 10]) ?_ rfl (a_A HG.out HBR.out);obtain⟨q0,q1,q2⟩:=HRS.out;simp[results,Tryz.results16,go_sem,q0,q1,q2]
 have e1:((x.ds.n:Int)==8)=false:=by simp;omega
 have HGA:Hid (c_M m b d=b_H m b ⟨f_i b.ds d,b.os,g_f k b.pl d.id⟩):=by
  show _=_;unfold c_M;rw[if_neg HN1.out,if_neg (by rw[HT.out];decide),if_neg HN2.out,if_neg (by rw[HTK.out];decide),if_neg (by have:=HDN.out;omega),HKK.out]
 clear h8;go_wp2_with fail
 refine(i_c x b ps _ (by exact HS3.out.pc.read) z1 z2 z4).mono ?_;rintro e w5 ⟨y,ps5,rfl,hn5⟩;clear c0 c1 c2 g0 g1 g2 g3 g4 g5 e1;go_upto_region 14 with fail
 have b6:Below w5.heap.size w5 (w5.alloc (.cells #[y.ds.v,y.os.v,y.pl.v] 42)):=(Below.refl _ _).alloc (Nat.le_refl _) _;have HN6:=Lib.hid (hn5.keep b6);have HX6:=Lib.hid (BBox.new w5 42 y);have HO6:=Lib.hid (hn5.off (g:=w5.heap.size) (.inl (Nat.le_refl _)));have HPS5:Hid (ps5.length=b.ds.length):=by show _=_;rw[← z3,←hn5.rt,List.length_map]
 have hg3:w3.heap.size≤w5.heap.size:=hn5.old.size;have hsz6:(w5.alloc (.cells #[y.ds.v,y.os.v,y.pl.v] 42)).heap.size=w5.heap.size+1:=by simp
 obtain⟨W6,hW6⟩:∃u,w5.alloc (.cells #[y.ds.v,y.os.v,y.pl.v] 42)=u:=⟨_,rfl⟩;obtain⟨g6,hg6⟩:∃g,w5.heap.size=g:=⟨_,rfl⟩;rw[hW6]at HN6 HX6 hsz6 ⊢;rw[hg6]at HX6 HO6 hsz6 hg3 ⊢;have HSZ6:=Lib.hid hsz6;clear hW6 hg6 b6 hn5 hsz6;have HDK:Hid (∀ u,Below w3.heap.size w3 u→DBox u (w.heap.size+1) d):=fun u hu=>(HS3.out.next hu).drv;obtain⟨d0,d1,d2⟩:=HX6.out.cells;obtain⟨g0,g1,g2,g3,g4,g5⟩:=(HDK.out _ HN6.out.old).cells;have hydn:y.ds.n=b.ds.length:=(b_O (n:=0) HN6.out.ds).1;obtain⟨yds,hyds⟩:∃s,y.ds=s:=⟨_,rfl⟩;have HYD:=Lib.hid hyds;rw[hyds]at d0;obtain⟨ya,yn,yc,yh⟩:=yds;have hydn2:yn=b.ds.length:=by rw[← hydn,hyds]
 clear hyds hydn;subst hydn2;have b7:Below W6.heap.size W6 (W6.alloc (.cells #[.int .i64 d.id,.int .i64 d.room,.int .i64 d.home,.int .i64 d.win.fr,.int .i64 d.win.to,.bool d.retired] 33)):=(Below.refl _ _).alloc (Nat.le_refl _) _;have HN7:=Lib.hid (HN6.out.keep b7);have HX7:=Lib.hid (HX6.out.below b7);have HV7:Hid (Blk (W6.alloc (.cells #[.int .i64 d.id,.int .i64 d.room,.int .i64 d.home,.int .i64 d.win.fr,.int .i64 d.win.to,.bool d.retired] 33)) W6.heap.size 33 (a_0 [d])):=Blk.new W6 _ _;have hsz7:(W6.alloc (.cells #[.int .i64 d.id,.int .i64 d.room,.int .i64 d.home,.int .i64 d.win.fr,.int .i64 d.win.to,.bool d.retired] 33)).heap.size=W6.heap.size+1:=by simp
 have HNE:Hid ((Value.slice ya b.ds.length yc).ownBlock≠some W6.heap.size):=by
  have h1:=d_y HN6.out.ds (g:=W6.heap.size) (.inl (Nat.le_refl _));rw[HYD.out]at h1;exact h1
 rw[HRT.out]at g5;rw[HRT.out]at HN7 HX7 HV7 hsz7;have HSZ7:=Lib.hid hsz7;clear b7 hsz7;have HWG:Hid (W6.heap.size=g6+1):=HSZ6;go_wp2_with fail
 refine(p_E w3.heap.size b.ds.length yc k ya (a_0 b.ds) (a_0 [d]) W6.heap.size _ (by have h1:=HN7.out.ds;rw[HYD.out]at h1;exact h1) (by have:=HN7.out.old.size;exact this) (g_F _) HV7.out rfl (g_F _) HNE.out hkl (by omega)).mono ?_;rintro e w8 ⟨v8,rfl,ho8,hg8,hor8⟩;have hsz6:=HSZ6.out;have hsz7:=HSZ7.out;clear d0 d1 d2 g0 g1 g2 g3 g4 g5;have hgr:(Value.slice ya b.ds.length yc).ownBlock=y.ds.v.ownBlock:=by rw[HYD.out]
 rw[hgr]at hg8 hor8;rw[← HKK.out]at ho8;obtain⟨s8,rfl,hn8⟩:=HN7.out.hire1 (d:=d) ho8 hg8 hor8;have HX8:Hid (BBox w8 g6 42 y):=(hg8.block g6 (by omega) (fun e=>HO6.out.ds e.symm)).trans HX7.out
 have HO8:Hid (Off g6 ⟨s8,y.os,y.pl⟩ ps5):=by
  refine⟨fun e=>?_,HO6.out.os,HO6.out.pl,HO6.out.each⟩;rcases hor8 with h|h
  ·exact HO6.out.ds (h.symm.trans e)
  ·rw[h]at e;injection e with e;omega
 have HN8:=Lib.hid (hn8.set_off HO8.out (by omega) 0 s8.v);have HX9:Hid (BBox (w8.setCell ⟨g6,0,none⟩ s8.v) g6 42 ⟨s8,y.os,y.pl⟩):=Blk.put HX8.out 0 s8.v;have hsz8:(w8.setCell ⟨g6,0,none⟩ s8.v).heap.size=w8.heap.size:=by simp[World.setCell]
 have hlt8:g6<w8.heap.size:=Blk.lt HX8.out;obtain⟨x0,x1,x2⟩:=HX8.out.cells;have hff:=Blk.free HX8.out;clear hgr ho8 hg8 hor8 hn8 HN7 HX7 HV7 HN6 HX6 HO6 HNE hsz6 hsz7;go_upto_region 15 with fail
 obtain⟨W8,hW8⟩:∃u,w8.setCell ⟨g6,0,none⟩ s8.v=u:=⟨_,rfl⟩;rw[hW8]at HN8 HX9 hsz8;rw[hW8];have HSZ8:=Lib.hid hsz8;have HLT8:=Lib.hid hlt8;clear hsz8 hlt8 hW8 x0 x1 x2 hff HX8;obtain⟨d0,d1,d2⟩:=HX9.out.cells;obtain⟨g0,_⟩:=(HDK.out _ HN8.out.old).cells;obtain⟨ypl,hypl⟩:∃s,y.pl=s:=⟨_,rfl⟩;have HYP:=Lib.hid hypl;replace d2:W8.cell? ⟨g6,2,none⟩=some y.pl.v:=d2;rw[hypl]at d2;have hydn:y.pl.n=ps5.length:=by obtain⟨A,c,e,_⟩:=HN8.out.pl.own.read;injection e
 obtain⟨pa,pn,pc,ph⟩:=ypl;have hydn2:pn=ps5.length:=by rw[← hydn,hypl]
 clear hypl hydn;subst hydn2;have b9:Below W8.heap.size W8 (W8.alloc (.cells #[.int .i64 d.id,.int .i64 0,.slice none 0 0] 37)):=(Below.refl _ _).alloc (Nat.le_refl _) _;have HN9:=Lib.hid (HN8.out.keep b9);have HX10:=Lib.hid (HX9.out.below b9);have HV9:Hid (Blk (W8.alloc (.cells #[.int .i64 d.id,.int .i64 0,.slice none 0 0] 37)) W8.heap.size 37 (rmsV [newR d.id])):=Blk.new W8 _ _;have hsz9:(W8.alloc (.cells #[.int .i64 d.id,.int .i64 0,.slice none 0 0] 37)).heap.size=W8.heap.size+1:=by simp
 have HNE:Hid ((Value.slice pa ps5.length pc).ownBlock≠some W8.heap.size):=by
  have h1:=d_y HN8.out.pl.own (g:=W8.heap.size) (.inl (Nat.le_refl _));have h2:(y.pl.v).ownBlock≠some W8.heap.size:=h1;rw[HYP.out]at h2;exact h2
 have HSZ9:=Lib.hid hsz9;clear b9 hsz9;go_wp2_with fail
 refine(p_G w3.heap.size ps5.length pc k pa (rmsV ps5) (rmsV [newR d.id]) W8.heap.size _ (by have h1:=HN9.out.pl.own;have h2:OwnK _ _ _ _ y.pl.v _ _:=h1;rw[HYP.out]at h2;exact h2) (by have:=HN9.out.old.size;exact this) (l_J _) HV9.out rfl (l_J _) HNE.out (by have:=HPS5.out;omega) (by have:=HPS5.out;omega)).mono ?_;rintro e w10 ⟨v10,rfl,ho10,hg10,hor10⟩;have hsz8:=HSZ8.out;have hlt8:=HLT8.out;have hsz9:=HSZ9.out;clear d0 d1 d2 g0;have hgr:(Value.slice pa ps5.length pc).ownBlock=y.pl.v.ownBlock:=by rw[HYP.out]
 rw[hgr]at hg10 hor10;obtain⟨s10,rfl,hn10⟩:=HN9.out.hire2 (k:=k) (i:=d.id) (by have:=HPS5.out;omega) ho10 hg10 hor10;have HX11:Hid (BBox w10 g6 42 ⟨s8,y.os,y.pl⟩):=(hg10.block g6 (by omega) (fun e=>HO8.out.pl e.symm)).trans HX10.out
 have HO10:Hid (Off g6 ⟨s8,y.os,s10⟩ (ps5.take k++newR d.id::ps5.drop k)):=by
  refine⟨HO8.out.ds,HO8.out.os,fun e=>?_,fun r hr=>?_⟩
  ·rcases hor10 with h|h
   ·exact HO8.out.pl (h.symm.trans e)
   ·have e':s10.v.ownBlock=some g6:=e
    rw[h]at e';injection e' with e';omega
  ·rcases List.mem_append.1 hr with hr|hr
   ·exact HO8.out.each r (List.mem_of_mem_take hr)
   ·rcases List.mem_cons.1 hr with rfl|hr
    ·intro e;cases e
    ·exact HO8.out.each r (List.mem_of_mem_drop hr)
 have HN11:=Lib.hid (hn10.set_off HO10.out (by omega) 2 s10.v);have HX12:Hid (BBox (w10.setCell ⟨g6,2,none⟩ s10.v) g6 42 ⟨s8,y.os,s10⟩):=Blk.put HX11.out 2 s10.v;obtain⟨x0,x1,x2⟩:=HX11.out.cells;have hff:=Blk.free HX11.out;clear hgr ho10 hg10 hor10 hn10 HN9 HX10 HV9 HN8 HX9 HO8 HNE hsz9 hsz8 hlt8;go_upto_region 16 with fail
 obtain⟨W12,hW12⟩:∃u,w10.setCell ⟨g6,2,none⟩ s10.v=u:=⟨_,rfl⟩;rw[hW12]at HN11 HX12;rw[hW12];have HS12:=Lib.hid (HS3.out.next HN11.out.old);clear hW12 x0 x1 x2 hff HX11 HO10 HS3 HDK;obtain⟨d0,d1,d2⟩:=HX12.out.cells;obtain⟨c0,c1,c2⟩:=HS12.out.pc.arg.cells;go_wp2_with fail
 refine(d_C base q m x b ps ⟨s8,y.os,s10⟩ ⟨f_i b.ds d,b.os,g_f k b.pl d.id⟩ (ps5.take k++newR d.id::ps5.drop k) _ (by exact HS12.out.pc.mp) (by exact HS12.out.pc.read) (by exact HN11.out.read)).mono ?_;rintro e wg ⟨z,psn,rfl,hng⟩;have HSG:=Lib.hid (HS12.out.next hng.old);have HBN:=Lib.hid (c_H (x:=z) HS12.out.pc.old HS12.out.pc.res hng (by omega));have hsg:=HSG.out;obtain⟨y0,y1,y2⟩:=HSG.out.pc.res.cells;have hff:=Blk.free HSG.out.pc.res;have HRS:=Lib.hid (a_t HSG.out.pc.res z);clear hng HS12 hsg c0 c1 c2;go_wp2_with fail
 refine bodyPost_ret (v:=.tuple #[bkV z,.int .i64 (b_H m b ⟨f_i b.ds d,b.os,g_f k b.pl d.id⟩).2]) ?_ rfl (by rw[HGA.out];exact⟨z,psn,rfl,HBN.out⟩);obtain⟨q0,q1,q2⟩:=HRS.out;simp[results,Tryz.results16,go_sem,q0,q1,q2]
theorem k_2{p:List Rte}{r:Rte}(h:a_h p=true)(hr:r∈p):r.stops.length≤80∧0≤r.served∧r.served≤(r.stops.length:Int):=by
 unfold a_h at h;simp only[Bool.and_eq_true]at h;have h1:=List.all_eq_true.1 h.1.1.2 r hr;unfold e_y at h1;rw[decide_eq_true_eq]at h1;exact⟨h1.2.2.1,h1.2.2.2.1,h1.2.2.2.2.1⟩
theorem e_X(base:Nat)(q:Option Addr)(m:Option Mp)(x:Bv)(b:Bk)(ps:List RM)(i c:Int)(w:World)(h:MapP w 92 base (.pointer q) m)(hx:BkR w w.heap.size x b ps):
 Calls Tryz.prog 17 #[.pointer q,bkV x,.int .i64 i,.int .i64 c] w (BkOk w (b_N m b i c)):=by
 have HS:Hid (PC w q m base w.heap.size (w.heap.size+1) x b ps ((w.alloc (.cells #[x.ds.v,x.os.v,x.pl.v] 42)).alloc (.cells #[.slice none 0 0,.slice none 0 0,.slice none 0 0] 42))):=by
  refine⟨((Below.refl _ _).alloc (Nat.le_refl _) _).alloc (by simp) _,h,hx,(BBox.new w _ x).below ((Below.refl _ _).alloc (Nat.le_refl _) _),?_⟩;have:=BBox.new (w.alloc (.cells #[x.ds.v,x.os.v,x.pl.v] 42)) 42 bv0;simpa using this
 have hon:=hx.on;have hdn:=hx.dn;have hpn:=hx.pn;clear h hx;go_enter Tryz.func17,Tryz.ntmps17;go_upto_region 1 with fail
 try simp only[World.size_alloc,Nat.add_assoc,Nat.reduceAdd]
 obtain⟨X,hX⟩:∃u,((w.alloc (.cells #[x.ds.v,x.os.v,x.pl.v] 42)).alloc (.cells #[.slice none 0 0,.slice none 0 0,.slice none 0 0] 42))=u:=⟨_,rfl⟩;rw[hX]at HS ⊢;clear hX;obtain⟨c0,c1,c2⟩:=HS.out.arg.cells;go_wp2_with fail
 obtain⟨r1,hr1⟩:∃r,a_q m b=r:=⟨_,rfl⟩;refine(pright_any base q m x b ps r1 _ (by exact HS.out.mp) (by exact HS.out.read) hr1).mono ?_;rintro e w1 ⟨rfl,hb1⟩;have HS1:=Lib.hid (HS.out.next hb1);have HR1:=Lib.hid hr1;clear hb1 hr1 HS c0 c1 c2;cases r1 with
 |false=>
  have HG:Hid ((bk0,(1:Int))=b_N m b i c):=by show _=_;unfold b_N;rw[if_pos HR1.out]
  obtain⟨y0,y1,y2⟩:=HS1.out.res.cells;have hff:=Blk.free HS1.out.res;have HRS:=Lib.hid (a_i HS1.out.res);have HBR:=Lib.hid (a_r (g:=w.heap.size+1) HS1.out.old (by omega));go_wp2_with fail
  refine bodyPost_ret (v:=.tuple #[.agg #[.slice none 0 0,.slice none 0 0,.slice none 0 0],.int .i64 1]) ?_ rfl (a_A HG.out HBR.out);obtain⟨q0,q1,q2⟩:=HRS.out;simp[results,Tryz.results17,go_sem,q0,q1,q2]
 |true=>
 obtain⟨z1,z2,z3,z4,z5⟩:=a_9 HR1.out;have HAD:Hid (AscD b.ds):=(a_w HR1.out).2.2.2.2.1;have HSM:=Lib.hid (r_z (i:=i) (c:=c) HR1.out);obtain⟨c0,c1,c2⟩:=HS1.out.arg.cells;obtain⟨D,hD⟩:∃d,a_o b.ds i=d:=⟨_,rfl⟩;rw[hD]at HSM;go_wp2_with fail
 refine(phired_any x b ps i _ (by exact HS1.out.read) (by omega) HAD.out).mono ?_;rintro e w3 ⟨rfl,hb3⟩;rw[hD];have HS3:=Lib.hid (HS1.out.next hb3);clear hb3 HS1 c0 c1 c2;cases D with
 |none=>
  simp only[Option.isSome_none];have HG:Hid ((bk0,(8:Int))=b_N m b i c):=HSM.out.symm;obtain⟨y0,y1,y2⟩:=HS3.out.res.cells;have hff:=Blk.free HS3.out.res;have HRS:=Lib.hid (a_i HS3.out.res);have HBR:=Lib.hid (a_r (g:=w.heap.size+1) HS3.out.old (by omega));go_wp2_with fail
  refine bodyPost_ret (v:=.tuple #[.agg #[.slice none 0 0,.slice none 0 0,.slice none 0 0],.int .i64 8]) ?_ rfl (a_A HG.out HBR.out);obtain⟨q0,q1,q2⟩:=HRS.out;simp[results,Tryz.results17,go_sem,q0,q1,q2]
 |some d=>
 simp only[Option.isSome_some];obtain⟨rt,hrt⟩:∃rt,b.pl[atD b.ds i]?=some rt:=by obtain⟨rt,h,_⟩:=f_C HR1.out hD;exact⟨rt,h⟩
 obtain⟨k,hk⟩:∃k,atD b.ds i=k:=⟨_,rfl⟩;rw[hk]at hrt HSM ⊢;have hkl:k<x.pl.n:=by rw[← hpn];exact(List.getElem?_eq_some_iff.1 hrt).1
 obtain⟨pb,poff,r,hpa,_,hr,_,k0,k1,k2,hst,hrc⟩:=HS3.out.read.pl.at_ hkl
 have hrr:r.rt=rt:=by
  have h1:=hrt;rw[← HS3.out.bk.rt,List.getElem?_map,hr]at h1;injection h1
 subst hrr;have HSL:Hid (r.rt.stops.length=r.n):=Stps.length hst;have hbd:=a_R z4 (List.mem_of_getElem? hrt)
 have HSM2:Hid (b_N m b i c=if c<1∨(r.n:Int)-r.rt.served<c then(bk0,1)else(⟨b.ds,b.os,b.pl.set k ⟨r.rt.drv,r.rt.served+c,r.rt.stops⟩⟩,0)):=by
  show _=_;rw[HSM.out];simp only[hrt,HSL.out]
 obtain⟨hb80,hs0,hsn⟩:r.n≤80∧0≤r.rt.served∧r.rt.served≤(r.n:Int):=by
  have:=HSL.out;have h1:=k_2 z4 (List.mem_of_getElem? hrt);rw[this]at h1;exact h1
 obtain⟨c0,c1,c2⟩:=HS3.out.arg.cells;replace c2:w3.cell? ⟨w.heap.size,2,none⟩=some (.slice (some ⟨pb,poff,none⟩) x.pl.n x.pl.c):=by rw[← hpa];exact c2
 have hxc:=x.pl.h;have hR:=Lib.hid hr;clear hD hr hrt hk hbd hst HSM;go_upto_region 7 with fail
 have b5:Below w3.heap.size w3 (w3.alloc (.cells #[.int .i64 r.rt.drv,.int .i64 r.rt.served,.slice r.a r.n r.c] 37)):=(Below.refl _ _).alloc (Nat.le_refl _) _;have HS4:=Lib.hid (HS3.out.next b5);have HRB:Hid (Blk (w3.alloc (.cells #[.int .i64 r.rt.drv,.int .i64 r.rt.served,.slice r.a r.n r.c] 37)) w3.heap.size 37 [.int .i64 r.rt.drv,.int .i64 r.rt.served,.slice r.a r.n r.c]):=Blk.new _ _ _;obtain⟨W,hW⟩:∃u,w3.alloc (.cells #[.int .i64 r.rt.drv,.int .i64 r.rt.served,.slice r.a r.n r.c] 37)=u:=⟨_,rfl⟩;obtain⟨gs,hgs⟩:∃g,w3.heap.size=g:=⟨_,rfl⟩;rw[hW]at HS4 HRB ⊢;rw[hgs]at HRB ⊢;clear hW hgs HS3 b5 c0 c1 c2 k0 k1 k2;have r1:=HRB.out.cell (i:=1) rfl;have r2:=HRB.out.cell (i:=2) rfl;have wr:IntKind.i64.wrap ((r.n:Int)-r.rt.served)=(r.n:Int)-r.rt.served:=IntWalk.i64_in _ (by omega);by_cases hc1:c<1
 case pos=>
  have HG:Hid ((bk0,(1:Int))=b_N m b i c):=by show _=_;rw[HSM2.out,if_pos (.inl hc1)]
  obtain⟨y0,y1,y2⟩:=HS4.out.res.cells;have hff:=Blk.free HS4.out.res;have HRS:=Lib.hid (a_i HS4.out.res);have HBR:=Lib.hid (a_r (g:=w.heap.size+1) HS4.out.old (by omega));go_wp2_with fail
  refine bodyPost_ret (v:=.tuple #[.agg #[.slice none 0 0,.slice none 0 0,.slice none 0 0],.int .i64 1]) ?_ rfl (a_A HG.out HBR.out);obtain⟨q0,q1,q2⟩:=HRS.out;simp[results,Tryz.results17,go_sem,q0,q1,q2]
 by_cases hc2:(r.n:Int)-r.rt.served<c
 case pos=>
  have HG:Hid ((bk0,(1:Int))=b_N m b i c):=by show _=_;rw[HSM2.out,if_pos (.inr hc2)]
  obtain⟨y0,y1,y2⟩:=HS4.out.res.cells;have hff:=Blk.free HS4.out.res;have HRS:=Lib.hid (a_i HS4.out.res);have HBR:=Lib.hid (a_r (g:=w.heap.size+1) HS4.out.old (by omega));go_wp2_with fail
  refine bodyPost_ret (v:=.tuple #[.agg #[.slice none 0 0,.slice none 0 0,.slice none 0 0],.int .i64 1]) ?_ rfl (a_A HG.out HBR.out);obtain⟨q0,q1,q2⟩:=HRS.out;simp[results,Tryz.results17,go_sem,q0,q1,q2]
 have HSM3:Hid (b_N m b i c=(⟨b.ds,b.os,b.pl.set k ⟨r.rt.drv,r.rt.served+c,r.rt.stops⟩⟩,0)):=by
  show _=_;rw[HSM2.out,if_neg (by rintro(h|h);exact hc1 h;exact hc2 h)]
 have wa:IntKind.i64.wrap (r.rt.served+c)=r.rt.served+c:=IntWalk.i64_in _ (by omega);clear HSM2;obtain⟨c0,c1,c2⟩:=HS4.out.arg.cells;go_wp2_with fail
 refine(i_c x b ps _ (by exact HS4.out.read) z1 z2 z4).mono ?_;rintro e w5 ⟨y,ps5,rfl,hn5⟩;go_upto_region 10 with fail
 obtain⟨r5,hr5,hr5r⟩:∃r5,ps5[k]?=some r5∧r5.rt=r.rt:=by
  have h1:(ps.map (·.rt))[k]?=some r.rt:=by rw[List.getElem?_map,hR.out];rfl
  rw[HS4.out.bk.rt,←hn5.rt,List.getElem?_map]at h1;cases h2:ps5[k]? with
  |none=>rw[h2]at h1;cases h1
  |some r5=>rw[h2]at h1;injection h1 with h1;exact⟨r5,rfl,h1⟩
 have b6:Below w5.heap.size w5 (w5.alloc (.cells #[y.ds.v,y.os.v,y.pl.v] 42)):=(Below.refl _ _).alloc (Nat.le_refl _) _;have hn6:=hn5.keep b6;have HS6:=Lib.hid (HS4.out.next (hn5.old.trans (b6.mono hn5.old.size)));have hsv:=hn6.serve hr5 (r.rt.served+c);rw[hr5r]at hsv;obtain⟨g,hya,hyn,k1,hfz,hgl,hn7⟩:=hsv;have hX6:=BBox.new w5 42 y
 have hgs:g≠w5.heap.size:=fun e=>by
  have h1:=d_y hn5.pl.own (g:=g) (.inl (by omega));exact h1 (by show(Value.slice y.pl.a y.pl.n y.pl.c).ownBlock=_;rw[hya];rfl)
 have hX7:BBox ((w5.alloc (.cells #[y.ds.v,y.os.v,y.pl.v] 42)).setCell ⟨g,k*3+1,none⟩ (.int .i64 (r.rt.served+c))) w5.heap.size 42 y:=(Below.heap_setCell _ _ _ _ (Ne.symm hgs)).trans hX6;have hge:=HS4.out.old.size;have HS7r:Hid (BBox ((w5.alloc (.cells #[y.ds.v,y.os.v,y.pl.v] 42)).setCell ⟨g,k*3+1,none⟩ (.int .i64 (r.rt.served+c))) (w.heap.size+1) 42 bv0):=(hn7.old.block _ (Blk.lt HS4.out.res)).trans HS4.out.res;have HBN:=Lib.hid (c_H (x:=y) HS4.out.old HS4.out.res hn7 (by omega));have hyl:k<y.pl.n:=by rw[hyn];exact(List.getElem?_eq_some_iff.1 hr5).1
 have hyc:=y.pl.h;have hyz:y.pl.n≤9223372036854775807:=by have:=hn6.read.pl.rows.le;exact this
 obtain⟨ya,yn,yc,yh,hypv⟩:∃A n c,∃h:n≤c,y.pl=⟨A,n,c,h⟩:=⟨_,_,_,_,rfl⟩;have hya2:ya=some ⟨g,0,none⟩:=by rw[← hya,hypv]
 have hyl2:k<yn:=by rw[hypv]at hyl;exact hyl
 have hpv2:y.pl.v=.slice (some ⟨g,0,none⟩) yn yc:=by rw[hypv,←hya2]
 have hyz2:yn≤9223372036854775807:=by rw[hypv]at hyz;exact hyz
 have hyc2:yn≤yc:=yh;have HX6:=Lib.hid hX6;have HX7:=Lib.hid hX7;clear hn5 hn6 hn7 hX6 hX7 HS4 HS6 HRB r1 r2 hr5 hr5r hya hyn b6 c0 c1 c2 hc1 hc2;obtain⟨W6,hW6⟩:∃u,w5.alloc (.cells #[y.ds.v,y.os.v,y.pl.v] 42)=u:=⟨_,rfl⟩;obtain⟨g6,hg6⟩:∃g,w5.heap.size=g:=⟨_,rfl⟩;rw[hW6]at k1 hfz HX6 HX7 HBN HS7r ⊢;rw[hg6]at HX6 HX7 ⊢;clear hW6 hg6;obtain⟨d0,d1,d2⟩:=HX6.out.cells;rw[hpv2]at d2;go_upto_region 11 with fail
 obtain⟨V,hV⟩:∃u,W6.setCell ⟨g,k*3+1,none⟩ (.int .i64 (r.rt.served+c))=u:=⟨_,rfl⟩;rw[hV]at HBN HX7 HS7r ⊢;clear hV d0 d1 d2 k1 hfz HX6 hpv2 hypv hya2;obtain⟨d0,d1,d2⟩:=HX7.out.cells;obtain⟨y0,y1,y2⟩:=HS7r.out.cells;have hff:=Blk.free HS7r.out;have HRS:=Lib.hid (a_t HS7r.out y);go_wp2_with fail
 refine bodyPost_ret (v:=.tuple #[bkV y,.int .i64 0]) ?_ rfl (by rw[HSM3.out];exact⟨y,_,rfl,HBN.out⟩);obtain⟨q0,q1,q2⟩:=HRS.out;simp[results,Tryz.results17,go_sem,q0,q1,q2]
def BmOk(w:World)(r:Bk×Int×Int)(e:Ending)(w':World):Prop:=∃y ps,e=.returned (.tuple #[bkV y,.int .i64 r.2.1,.int .i64 r.2.2])∧BkN w w' y r.1 ps
theorem f_D{w w':World}{r:Bk×Int×Int}{c:Int}(h:(bk0,(0:Int),c)=r)(hb:Below w.heap.size w w'):BmOk w r (.returned (.tuple #[.agg #[.slice none 0 0,.slice none 0 0,.slice none 0 0],.int .i64 0,.int .i64 c])) w':=by
 obtain⟨y,ps,e,hn⟩:=a_A (r:=(bk0,c)) rfl hb;subst h;refine⟨bv0,[],rfl,⟨OwnK.nil _ _ _ _,OwnK.nil _ _ _ _,⟨hb,OwnK.nil _ _ _ _,fun r h=>(by cases h)⟩,rfl,fun r h=>(by cases h),⟨Two.nil _,Two.nil _,Two.nil _,fun r h=>(by cases h)⟩⟩⟩
def t_y(m:Option Mp)(b:Bk):Option RSt→Bk×Int×Int
 |none=>(bk0,0,1)
 |some s=>match b_H m b ⟨b.ds,b.os,s.out⟩with
  |(x,e)=>if e≠0 then(bk0,0,e)else(x,s.steps,0)
theorem p_P{m:Option Mp}{b:Bk}{n:Int}{R:Option RSt}(h:a_q m b=true)(hR:b_q m b.ds b.os b.pl n=R):c_N m b n=t_y m b R:=by
 unfold c_N;by_cases hn:n<0∨100000<n
 ·rw[if_pos (.inr hn)]
  have:R=none:=by
   rw[← hR];unfold b_q;cases a_z m b.ds b.os b.pl with
   |none=>rfl
   |some t=>simp only;rw[if_pos hn]
  rw[this];rfl
 ·rw[if_neg (by rw[h];rintro(e|e);cases e;exact hn e),hR]
  cases R<;>rfl
theorem j_m(base:Nat)(q:Option Addr)(m:Option Mp)(x:Bv)(b:Bk)(ps:List RM)(n:Int)(w:World)(h:MapP w 92 base (.pointer q) m)(hx:BkR w w.heap.size x b ps):
 Calls Tryz.prog 32 #[.pointer q,bkV x,.int .i64 n] w (BmOk w (c_N m b n)):=by
 have HS:Hid (PC w q m base w.heap.size (w.heap.size+1) x b ps ((w.alloc (.cells #[x.ds.v,x.os.v,x.pl.v] 42)).alloc (.cells #[.slice none 0 0,.slice none 0 0,.slice none 0 0] 42))):=by
  refine⟨((Below.refl _ _).alloc (Nat.le_refl _) _).alloc (by simp) _,h,hx,(BBox.new w _ x).below ((Below.refl _ _).alloc (Nat.le_refl _) _),?_⟩;have:=BBox.new (w.alloc (.cells #[x.ds.v,x.os.v,x.pl.v] 42)) 42 bv0;simpa using this
 have hon:=hx.on;have hdn:=hx.dn;have hpn:=hx.pn;clear h hx;go_enter Tryz.func32,Tryz.ntmps32;go_upto_region 1 with fail
 try simp only[World.size_alloc,Nat.add_assoc,Nat.reduceAdd]
 obtain⟨X,hX⟩:∃u,((w.alloc (.cells #[x.ds.v,x.os.v,x.pl.v] 42)).alloc (.cells #[.slice none 0 0,.slice none 0 0,.slice none 0 0] 42))=u:=⟨_,rfl⟩;rw[hX]at HS ⊢;clear hX;obtain⟨c0,c1,c2⟩:=HS.out.arg.cells;go_wp2_with fail
 obtain⟨r1,hr1⟩:∃r,a_q m b=r:=⟨_,rfl⟩;refine(pright_any base q m x b ps r1 _ (by exact HS.out.mp) (by exact HS.out.read) hr1).mono ?_;rintro e w1 ⟨rfl,hb1⟩;have HS1:=Lib.hid (HS.out.next hb1);have HR1:=Lib.hid hr1;clear hb1 hr1 HS c0 c1 c2;cases r1 with
 |false=>
  have HG:Hid ((bk0,(0:Int),(1:Int))=c_N m b n):=by show _=_;unfold c_N;rw[if_pos (.inl HR1.out)]
  obtain⟨y0,y1,y2⟩:=HS1.out.res.cells;have hff:=Blk.free HS1.out.res;have HRS:=Lib.hid (a_i HS1.out.res);have HBR:=Lib.hid (a_r (g:=w.heap.size+1) HS1.out.old (by omega));go_wp2_with fail
  refine bodyPost_ret (v:=.tuple #[.agg #[.slice none 0 0,.slice none 0 0,.slice none 0 0],.int .i64 0,.int .i64 1]) ?_ rfl (f_D HG.out HBR.out);obtain⟨q0,q1,q2⟩:=HRS.out;simp[results,Tryz.results32,go_sem,q0,q1,q2]
 |true=>
 obtain⟨z1,z2,z3,z4,z5⟩:=a_9 HR1.out;obtain⟨c0,c1,c2⟩:=HS1.out.arg.cells;obtain⟨R,hR⟩:∃r,b_q m b.ds b.os b.pl n=r:=⟨_,rfl⟩;have HMM:=Lib.hid (p_P (n:=n) HR1.out hR);have HRR:Hid (b_q m b.ds b.os (ps.map (·.rt)) n=R):=by show _=_;rw[HS1.out.bk.rt];exact hR
 clear hR;go_wp2_with fail
 refine(RepairW.prepair_any base (.pointer q) m x.ds.a x.ds.n x.ds.c b.ds x.os.a x.os.n x.os.c b.os x.pl.a x.pl.n x.pl.c ps n _ x.ds.h x.os.h (by exact HS1.out.mp) (by exact HS1.out.read.ds) (by exact HS1.out.read.os) (by exact HS1.out.read.pl) (by omega)).mono ?_;intro e w2 hw2;rw[HRR.out]at hw2;cases R with
 |none=>
  obtain⟨rfl,hb2⟩:=hw2;have HS2:=Lib.hid (HS1.out.next hb2);clear hb2 HS1 c0 c1 c2;have HG:Hid ((bk0,(0:Int),(1:Int))=c_N m b n):=HMM.out.symm;obtain⟨y0,y1,y2⟩:=HS2.out.res.cells;have hff:=Blk.free HS2.out.res;have HRS:=Lib.hid (a_i HS2.out.res);have HBR:=Lib.hid (a_r (g:=w.heap.size+1) HS2.out.old (by omega));go_wp2_with fail
  refine bodyPost_ret (v:=.tuple #[.agg #[.slice none 0 0,.slice none 0 0,.slice none 0 0],.int .i64 0,.int .i64 1]) ?_ rfl (f_D HG.out HBR.out);obtain⟨q0,q1,q2⟩:=HRS.out;simp[results,Tryz.results32,go_sem,q0,q1,q2]
 |some s=>
 obtain⟨B2,cp2,l2,rfl,hb2,hp2,hrt2,hcp2⟩:=hw2;have HS2:=Lib.hid (HS1.out.next hb2);have HP2:=Lib.hid hp2;have HRT2:=Lib.hid hrt2;obtain⟨sn,hsn⟩:∃k,s.out.length=k:=⟨_,rfl⟩;rw[hsn]at HP2 hcp2 ⊢;clear hb2 hp2 hrt2 HS1 c0 c1 c2 hsn;obtain⟨d0,d1,d2⟩:=HS2.out.arg.cells;have HY2:Hid (BkR w2 w2.heap.size ⟨x.ds,x.os,⟨B2,sn,cp2,hcp2⟩⟩ ⟨b.ds,b.os,s.out⟩ l2):=⟨HS2.out.read.ds,HS2.out.read.os,HP2.out,HRT2.out⟩;go_wp2_with fail
 refine(d_C base q m x b ps ⟨x.ds,x.os,⟨B2,sn,cp2,hcp2⟩⟩ ⟨b.ds,b.os,s.out⟩ l2 _ (by exact HS2.out.mp) (by exact HS2.out.read) (by exact HY2.out)).mono ?_;rintro e wg ⟨y,psn,rfl,hng⟩;obtain⟨⟨gb,ge⟩,hgg⟩:∃z,b_H m b ⟨b.ds,b.os,s.out⟩=z:=⟨_,rfl⟩;have HMM2:Hid (c_N m b n=if ge≠0 then(bk0,0,ge)else(gb,(s.steps:Int),0)):=by show _=_;rw[HMM.out];unfold t_y;simp only[hgg]
 rw[hgg]at hng ⊢;have HGG:=Lib.hid hgg;go_upto_region 7 with fail
 have b5:Below wg.heap.size wg (wg.alloc (.cells #[y.ds.v,y.os.v,y.pl.v] 42)):=(Below.refl _ _).alloc (Nat.le_refl _) _;have HSG:=Lib.hid (HS2.out.next (hng.old.trans (b5.mono hng.old.size)));have HBN:=Lib.hid (c_H (x:=y) HS2.out.old HS2.out.res (hng.keep b5) (by omega));have HX5:=Lib.hid (BBox.new wg 42 y);obtain⟨W,hW⟩:∃u,wg.alloc (.cells #[y.ds.v,y.os.v,y.pl.v] 42)=u:=⟨_,rfl⟩;obtain⟨gs,hgs⟩:∃g,wg.heap.size=g:=⟨_,rfl⟩;rw[hW]at HSG HX5 HBN ⊢;rw[hgs]at HX5 ⊢;clear hng hW hgs HS2 HY2 HP2 hgg b5 d0 d1 d2;by_cases he0:ge=0
 case neg=>
  have e1:(ge==0)=false:=by simpa using he0
  have HG:Hid ((bk0,(0:Int),ge)=c_N m b n):=by show _=_;rw[HMM2.out,if_pos he0]
  clear he0;obtain⟨y0,y1,y2⟩:=HSG.out.res.cells;have hff:=Blk.free HSG.out.res;have HRS:=Lib.hid (a_i HSG.out.res);have HBR:=Lib.hid (a_r (g:=w.heap.size+1) HSG.out.old (by omega));go_wp2_with fail
  refine bodyPost_ret (v:=.tuple #[.agg #[.slice none 0 0,.slice none 0 0,.slice none 0 0],.int .i64 0,.int .i64 ge]) ?_ rfl (f_D HG.out HBR.out);obtain⟨q0,q1,q2⟩:=HRS.out;simp[results,Tryz.results32,go_sem,q0,q1,q2]
 subst he0;obtain⟨d0,d1,d2⟩:=HX5.out.cells;obtain⟨y0,y1,y2⟩:=HSG.out.res.cells;have hff:=Blk.free HSG.out.res;have HRS:=Lib.hid (a_t HSG.out.res y);have HG:Hid (c_N m b n=(gb,(s.steps:Int),0)):=by show _=_;rw[HMM2.out];rfl
 go_wp2_with fail
 refine bodyPost_ret (v:=.tuple #[bkV y,.int .i64 (s.steps:Int),.int .i64 0]) ?_ rfl (by rw[HG.out];exact⟨y,psn,rfl,HBN.out⟩);obtain⟨q0,q1,q2⟩:=HRS.out;simp[results,Tryz.results32,go_sem,q0,q1,q2]
structure AgI(m:Option Mp)(rds:List Drv)(outs:List FleetMath.Ord)(T:Except Int (List FleetMath.Ord×List Rte))(j:Nat)(left:Int)(os:List FleetMath.Ord)(p:List Rte):Prop where
 go:e_B m rds (outs.drop j) os p left=T
 lo:0≤left
 hi:left≤100000
 asc:AscO os
 few:os.length+(outs.length-j)≤40
 new:∀o∈outs.drop j,find os o.id=none
theorem p_Q{α:Type}(f:α→Bool)(l:List α):(l.filter fun x=>!f x).length+(l.filter f).length=l.length:=by
 induction l with
 |nil=>rfl
 |cons x r ih=>
  cases hf:f x<;>simp[List.filter_cons,hf]<;>omega
theorem p_R(m:Option Mp)(rds:List Drv)(b:Bk)(ids:List Int)(n:Int)(ha:AscO b.os)(h40:b.os.length≤40)(h0:0≤n)(h1:n≤100000):AgI m rds (outM b ids) (e_B m rds (outM b ids) (inM b ids) (a_b b.pl ids) n) 0 n (inM b ids) (a_b b.pl ids):=by
 refine⟨by rw[List.drop_zero],h0,h1,List.Pairwise.filter _ ha,?_,fun o ho=>?_⟩
 ·have:=p_Q (fun o:FleetMath.Ord=>decide (o.id∈ids) && !a_Q b.pl o.id) b.os
  unfold inM outM;omega
 ·rw[List.drop_zero]at ho
  have h2:=(List.mem_filter.1 ho).2;rw[find_none];intro x hx e;have h3:=(List.mem_filter.1 hx).2;rw[e]at h3;rw[h2]at h3;cases h3
theorem AgI.next{m:Option Mp}{rds:List Drv}{outs os:List FleetMath.Ord}{T:Except Int (List FleetMath.Ord×List Rte)}{j:Nat}{left:Int}{p:List Rte}{o:FleetMath.Ord}{nb:Bk}{k e:Int}(h:AgI m rds outs T j left os p)(ha:AscO outs)(hd:outs.drop j=o::outs.drop (j+1))(hj:j<outs.length)(hw:g_n m ⟨rds,os,p⟩ o left=(nb,k,e)):
 (e≠0→T=.error e)∧(e=0→nb.ds=rds∧0≤k∧k≤left∧AgI m rds outs T (j+1) (left-k) nb.os nb.pl):=by
 have hg:=h.go;rw[hd,e_B]at hg;unfold g_n at hw;obtain⟨⟨s,k1,e1⟩,hc⟩:∃z,a_2 m rds os p o left=z:=⟨_,rfl⟩;simp only[hc]at hg hw;have hst:=d_e hc h.lo;by_cases he:e1≠0
 ·rw[if_pos he]at hg hw
  injection hw with hw1 hw2;injection hw2 with hw2 hw3;subst hw3;exact⟨fun _=>hg.symm,fun e0=>absurd e0 he⟩
 ·rw[if_neg he]at hg hw
  injection hw with hw1 hw2;injection hw2 with hw2 hw3;subst hw1;subst hw2;subst hw3;have hno:find os o.id=none:=h.new o (by rw[hd];exact List.mem_cons_self ..);refine⟨fun e0=>absurd rfl e0,fun _=>⟨rfl,hst.1,hst.2,hg,by omega,by have:=h.hi;omega,n_r h.asc hno,?_,fun x hx=>?_⟩⟩
  ·have:=h.few
   show(b_w os o).length+_≤40;rw[n_s];omega
  ·rw[find_none]
   intro y hy e3;have hpw:(o::outs.drop (j+1)).Pairwise fun a b=>a.id<b.id:=by rw[← hd];exact List.Pairwise.sublist (List.drop_sublist _ _) ha
   rcases listed_mem.1 hy with rfl|hy
   ·have:=(List.pairwise_cons.1 hpw).1 x hx
    omega
   ·exact find_none.1 (h.new x (by rw[hd];exact List.mem_cons_of_mem _ hx)) y hy e3
structure RLm(w3:World)(gb:Nat)(za:Option Addr)(zn:Nat)(outs:List FleetMath.Ord)(z:Bv)(nb:Bk)(lz:List RM)(u:World):Prop where
 bel:Below w3.heap.size w3 u
 box:BBox u gb 42 z
 bk:BkR u u.heap.size z nb lz
 outs:Ords u u.heap.size za zn outs
theorem RLm.next{w3 u u':World}{gb:Nat}{za:Option Addr}{zn:Nat}{outs:List FleetMath.Ord}{z:Bv}{nb:Bk}{lz:List RM}(h:RLm w3 gb za zn outs z nb lz u)(hb:Below u.heap.size u u'):RLm w3 gb za zn outs z nb lz u':=
 ⟨h.bel.trans (hb.mono h.bel.size),h.box.below hb,h.bk.next hb,Recs.more (Recs.keep h.outs hb) hb.size⟩
theorem RLm.put{w3 u:World}{gb:Nat}{za:Option Addr}{zn:Nat}{outs:List FleetMath.Ord}{z y:Bv}{nb nb':Bk}{lz ly:List RM}(h:RLm w3 gb za zn outs z nb lz u)(hg:w3.heap.size≤gb)(hy:BkR u u.heap.size y nb' ly):RLm w3 gb za zn outs y nb' ly (put3 u gb y.ds.v y.os.v y.pl.v):=by
 have ho:=a_M u gb y;have hs:(put3 u gb y.ds.v y.os.v y.pl.v).heap.size=u.heap.size:=ho.size;refine⟨b_r h.bel hg,c_z h.box y,?_,?_⟩
 ·rw[hs];exact hy.only ho h.box
 ·rw[hs];exact g_p h.outs ho h.box
def retT(m:Option Mp)(b:Bk)(rds:List Drv):Except Int (List FleetMath.Ord×List Rte)→Bk×Int
 | .error e=>(bk0,e)
 | .ok (os,p)=>b_H m b ⟨rds,os,p⟩
theorem p_S{P:Program}{Q:Exit→Act→World→Prop}{o op:Oper}{t:List Oper}{a:Act}{u u':World}{lt:Bool}{s:Nat}{v:Value}(hd:o.dst=none)(hop:op.dst=some s)(hr:(execOp a.eval o).run P u=.ok .skip u')(he:(execOp a.eval op).run P u'=.ok (.value v) u')(hs:s<a.tmps.size)(hv:lt=false→a.tmps.getD s undef=v)(h:d_D P Q t (a.put (some s) v) u'):d_D P Q (o::(if lt then op::t else t)) a u:=by
 cases lt with
 |true=>exact d_P hd hr (c_I he (by rw[hop];exact h))
 |false=>
  have h1:=hv rfl
  have h2:a.tmps[s]?=some v:=by
   have h3:a.tmps[s]?=some a.tmps[s]:=Array.getElem?_eq_getElem hs;rw[Array.getD_eq_getD_getElem?,h3]at h1;rw[h3];exact congrArg some h1
  have e2:a.tmps.setIfInBounds s v=a.tmps:=by
   apply Array.ext_getElem?;intro n;rw[Array.getElem?_setIfInBounds];split
   ·rename_i e3
    subst e3;rw[h2]
   ·rfl
  have e:a.put (some s) v=a:=by
   show({ a with tmps:=a.tmps.setIfInBounds s v}:Act)=a;rw[e2]
  rw[e]at h;exact d_P hd hr h
theorem j_n{l:List Drv}{k:Nat}{d:Drv}(h:l[k]?=some d):(a_0 l).set (k*6+5) (.bool true)=a_0 (l.set k ⟨d.id,d.room,d.home,d.win,true⟩):=by
 induction l generalizing k with
 |nil=>cases h
 |cons y r ih=>
  cases k with
  |zero=>simp at h;subst h;rfl
  |succ k=>
   have h1:=ih (k:=k) (by simpa using h);rw[List.set_cons_succ];have e1:∀t,a_0 (y::t)=.int .i64 y.id::.int .i64 y.room::.int .i64 y.home::.int .i64 y.win.fr::.int .i64 y.win.to::.bool y.retired::a_0 t:=fun t=>rfl;rw[e1,e1,←h1,show(k+1)*6+5=(k*6+5)+1+1+1+1+1+1 by omega];rfl
theorem p_T{u:World}{B n:Nat}{A:Option Addr}{vs:List Value}(h:Recs u B A n 1 vs):Reads u B A n vs:=⟨by have:=h.1;omega,h.2.1,h.2.2⟩
theorem f_k{p:List Rte}{r:Rte}(h:a_h p=true)(hr:r∈p):r.stops.length≤80:=by
 unfold a_h at h;simp only[Bool.and_eq_true]at h;have h1:=List.all_eq_true.1 h.1.1.2 r hr;unfold e_y at h1;rw[decide_eq_true_eq]at h1;exact h1.2.2.1
theorem g_s{o:Oper}{a:Act}{u:World}(h:o.op=.alloc 42):(execOp a.eval o).run Tryz.prog u=.ok (.value (.pointer (some ⟨u.heap.size,0,none⟩))) (u.alloc (.cells #[.slice none 0 0,.slice none 0 0,.slice none 0 0] 42)):=by
 unfold execOp;rw[h];simp[go_sem]
theorem exec_extract{P:Program}{o:Oper}{a:Act}{u:World}{x:Operand}{k:Nat}{vs:Array Value}{v:Value}(h:o.op=.extract x k)(hp:a.eval x=.tuple vs)(hv:vs[k]?=some v):(execOp a.eval o).run P u=.ok (.value v) u:=by
 unfold execOp;rw[h];simp only[hp];simp[go_sem,hv]
theorem e_d(base:Nat)(q:Option Addr)(m:Option Mp)(x:Bv)(b:Bk)(ps:List RM)(i n:Int)(w:World)(h:MapP w 92 base (.pointer q) m)(hx:BkR w w.heap.size x b ps):
 Calls Tryz.prog 15 #[.pointer q,bkV x,.int .i64 i,.int .i64 n] w (BkOk w (a_W m b i n)):=by
 have HS:Hid (PC w q m base w.heap.size (w.heap.size+1) x b ps ((w.alloc (.cells #[x.ds.v,x.os.v,x.pl.v] 42)).alloc (.cells #[.slice none 0 0,.slice none 0 0,.slice none 0 0] 42))):=by
  refine⟨((Below.refl _ _).alloc (Nat.le_refl _) _).alloc (by simp) _,h,hx,(BBox.new w _ x).below ((Below.refl _ _).alloc (Nat.le_refl _) _),?_⟩;have:=BBox.new (w.alloc (.cells #[x.ds.v,x.os.v,x.pl.v] 42)) 42 bv0;simpa using this
 have HON:=Lib.hid hx.on;have HDN:=Lib.hid hx.dn;have HPN:=Lib.hid hx.pn;clear h hx;go_enter Tryz.func15,Tryz.ntmps15;go_upto_region 1 with fail
 try simp only[World.size_alloc,Nat.add_assoc,Nat.reduceAdd]
 obtain⟨X,hX⟩:∃u,((w.alloc (.cells #[x.ds.v,x.os.v,x.pl.v] 42)).alloc (.cells #[.slice none 0 0,.slice none 0 0,.slice none 0 0] 42))=u:=⟨_,rfl⟩;rw[hX]at HS ⊢;clear hX;obtain⟨c0,c1,c2⟩:=HS.out.arg.cells;go_wp2_with fail
 obtain⟨r1,hr1⟩:∃r,a_q m b=r:=⟨_,rfl⟩;refine(pright_any base q m x b ps r1 _ (by exact HS.out.mp) (by exact HS.out.read) hr1).mono ?_;rintro e w1 ⟨rfl,hb1⟩;have HS1:=Lib.hid (HS.out.next hb1);have HR1:=Lib.hid hr1;clear hb1 hr1 HS c0 c1 c2;cases r1 with
 |false=>
  have HG:Hid ((bk0,(1:Int))=a_W m b i n):=by show _=_;unfold a_W;rw[if_pos (.inl HR1.out)]
  obtain⟨y0,y1,y2⟩:=HS1.out.res.cells;have hff:=Blk.free HS1.out.res;have HRS:=Lib.hid (a_i HS1.out.res);have HBR:=Lib.hid (a_r (g:=w.heap.size+1) HS1.out.old (by omega));go_wp2_with fail
  refine bodyPost_ret (v:=.tuple #[.agg #[.slice none 0 0,.slice none 0 0,.slice none 0 0],.int .i64 1]) ?_ rfl (a_A HG.out HBR.out);obtain⟨q0,q1,q2⟩:=HRS.out;simp[results,Tryz.results15,go_sem,q0,q1,q2]
 |true=>
 obtain⟨z1,z2,z3,z4,z5⟩:=a_9 HR1.out;have HZ3:=Lib.hid z3;clear z3;have HAD:Hid (AscD b.ds):=(a_w HR1.out).2.2.2.2.1;have HAO:Hid (AscO b.os):=(a_w HR1.out).2.2.2.2.2;go_wp2_with fail
 refine(d_A n _).mono ?_;rintro e w1' ⟨rfl,rfl⟩;by_cases hbn:0≤n∧n≤100000
 case neg=>
  rw[decide_eq_false hbn];have HG:Hid ((bk0,(1:Int))=a_W m b i n):=by show _=_;unfold a_W;rw[if_pos (.inr (by omega))]
  clear hbn;obtain⟨y0,y1,y2⟩:=HS1.out.res.cells;have hff:=Blk.free HS1.out.res;have HRS:=Lib.hid (a_i HS1.out.res);have HBR:=Lib.hid (a_r (g:=w.heap.size+1) HS1.out.old (by omega));go_wp2_with fail
  refine bodyPost_ret (v:=.tuple #[.agg #[.slice none 0 0,.slice none 0 0,.slice none 0 0],.int .i64 1]) ?_ rfl (a_A HG.out HBR.out);obtain⟨q0,q1,q2⟩:=HRS.out;simp[results,Tryz.results15,go_sem,q0,q1,q2]
 rw[decide_eq_true hbn];have HRA:=Lib.hid (p_u (i:=i) HR1.out hbn.1 hbn.2);have HBN:=Lib.hid hbn;clear hbn;obtain⟨c0,c1,c2⟩:=HS1.out.arg.cells;obtain⟨D,hD⟩:∃d,a_o b.ds i=d:=⟨_,rfl⟩;rw[hD]at HRA;go_wp2_with fail
 refine(phired_any x b ps i _ (by exact HS1.out.read) (by omega) HAD.out).mono ?_;rintro e w3 ⟨rfl,hb3⟩;rw[hD];have HS3:=Lib.hid (HS1.out.next hb3);clear hb3 HS1 c0 c1 c2;cases D with
 |none=>
  simp only[Option.isSome_none];have HG:Hid ((bk0,(8:Int))=a_W m b i n):=HRA.out.symm;obtain⟨y0,y1,y2⟩:=HS3.out.res.cells;have hff:=Blk.free HS3.out.res;have HRS:=Lib.hid (a_i HS3.out.res);have HBR:=Lib.hid (a_r (g:=w.heap.size+1) HS3.out.old (by omega));go_wp2_with fail
  refine bodyPost_ret (v:=.tuple #[.agg #[.slice none 0 0,.slice none 0 0,.slice none 0 0],.int .i64 8]) ?_ rfl (a_A HG.out HBR.out);obtain⟨q0,q1,q2⟩:=HRS.out;simp[results,Tryz.results15,go_sem,q0,q1,q2]
 |some d=>
 simp only[Option.isSome_some];have HDD:=Lib.hid hD;obtain⟨hdk,hdi,hdl⟩:=g_h HAD.out hD;obtain⟨rt,hrt⟩:∃rt,b.pl[atD b.ds i]?=some rt:=by obtain⟨rt,h,_⟩:=f_C HR1.out hD;exact⟨rt,h⟩
 have HRS0:=Lib.hid (k_T HAD.out hD);obtain⟨k,hk⟩:∃k,atD b.ds i=k:=⟨_,rfl⟩;rw[hk]at hrt hdk hdl HRA HRS0 ⊢;have hdl2:k<x.ds.n:=by rw[← HDN.out];exact hdl
 obtain⟨db,doff,d',hda,_,hd',_,k0,k1,k2,k3,k4,k5⟩:=Drvs.at_ HS3.out.read.ds hdl2;have hdd:d'=d:=by rw[hdk]at hd';injection hd' with hd';exact hd'.symm
 subst hdd;have HRT:=Lib.hid hrt;have HDK:=Lib.hid hdk;clear hD hk hrt hd' hdi hdk hdl;obtain⟨c0,c1,c2⟩:=HS3.out.arg.cells;replace c0:w3.cell? ⟨w.heap.size,0,none⟩=some (.slice (some ⟨db,doff,none⟩) x.ds.n x.ds.c):=by rw[← hda];exact c0
 have hxdc:=x.ds.h;have hxm:x.ds.n≤9223372036854775807:=by have:=HS3.out.read.ds.le;exact this
 have HDA:=Lib.hid hda;clear hda;obtain⟨tr,htr⟩:∃t,d'.retired=t:=⟨_,rfl⟩;have HTR:=Lib.hid htr;rw[htr]at k5;clear htr;cases tr with
 |true=>
  have HG:Hid ((bk0,(23:Int))=a_W m b i n):=by show _=_;rw[HRA.out];simp only;rw[if_pos HTR.out]
  obtain⟨y0,y1,y2⟩:=HS3.out.res.cells;have hff:=Blk.free HS3.out.res;have HRS:=Lib.hid (a_i HS3.out.res);have HBR:=Lib.hid (a_r (g:=w.heap.size+1) HS3.out.old (by omega));go_wp2_with fail
  refine bodyPost_ret (v:=.tuple #[.agg #[.slice none 0 0,.slice none 0 0,.slice none 0 0],.int .i64 23]) ?_ rfl (a_A HG.out HBR.out);obtain⟨q0,q1,q2⟩:=HRS.out;simp[results,Tryz.results15,go_sem,q0,q1,q2]
 |false=>
 obtain⟨T,hT⟩:∃z,e_B m (a_n b.ds i) (outM b (a_p [rt])) (inM b (a_p [rt])) (a_b b.pl (a_p [rt])) n=z:=⟨_,rfl⟩;have HT:=Lib.hid hT;obtain⟨ids,hids⟩:∃z,a_p [rt]=z:=⟨_,rfl⟩;rw[hids]at HT
 have HRB:Hid (a_W m b i n=if(b_K m (a_n b.ds i) (inM b ids) (a_b b.pl ids)).2.2≠0 then(bk0,21)else retT m b (a_n b.ds i) T):=by
  show _=_;rw[HRA.out];simp only;rw[if_neg (by rw[HTR.out];decide),HRT.out];simp only;rw[hids,HT.out];by_cases hm:(b_K m (a_n b.ds i) (inM b ids) (a_b b.pl ids)).2.2≠0
  ·rw[if_pos hm,if_pos hm]
  ·rw[if_neg hm,if_neg hm]
   cases T<;>rfl
 have HRI:Hid (a_p [rt]=ids):=hids
 have HWI:Hid (∀ z∈ids,(Lit.int .i64 z).wf=true):=Lib.hid fun z hz=>by
  rw[← HRI.out]at hz;have h3:=((b_i [rt]).2 z).1 hz;simp only[allS,List.flatMap_cons,List.flatMap_nil,List.append_nil,List.mem_map]at h3;obtain⟨s,hs,rfl⟩:=h3;have hb:=c_s (a_R z4 (List.mem_of_getElem? HRT.out)) hs;simp[Lit.wf,IntKind.min,IntKind.max,IntKind.signed,IntKind.bits];omega
 have hpl2:k<x.pl.n:=by rw[← HPN.out,HZ3.out,HDN.out];exact hdl2
 obtain⟨pb,poff,r,hpa,_,hr,_⟩:=HS3.out.read.pl.at_ hpl2
 have hrr:r.rt=rt:=by
  have h1:=HRT.out;rw[← HS3.out.bk.rt,List.getElem?_map,hr]at h1;injection h1
 subst hrr;have HRR:=Lib.hid hr;have hrb:r.rt.stops.length≤80:=(f_k z4 (List.mem_of_getElem? HRT.out));have HPA:=Lib.hid hpa;clear hT hids HRA hpa hr;go_upto_region 8 with fail
 clear k0 k1 k2 k3 k4 k5 c0 c1 c2
 have HO8:Hid (∀ u,Below w3.heap.size w3 u→Calls Tryz.prog 35 #[.slice (some ⟨pb,poff+k*3,none⟩) 1 (x.pl.c-k)] u (fun en u'=>∃v D',en=.returned v∧Below u.heap.size u u'∧(∀ b,D' b→u.heap.size≤b∧b<u'.heap.size)∧ownF w3.heap.size 1 3 ids.length (b_l ids) v D' u')):=fun u hu=>by
  have hp:=(HS3.out.next hu).read.pl;rw[HPA.out]at hp;refine(e_a (some ⟨pb,poff+k*3,none⟩) 1 (x.pl.c-k) [r] u (r_G hp HRR.out) (by simp[allS];omega)).mono ?_;rintro en u' ⟨v,rfl,hns⟩;have h1:=hns.own;have e1:a_p ([r].map (·.rt))=ids:=HRI.out;rw[e1]at h1;exact⟨v,fun b=>v.ownBlock=some b,rfl,hns.old,fun b hb=>a_8 h1 hb,h1.lower hu.size,fun _=>Iff.rfl⟩
 obtain⟨fs,hfs⟩:∃fs:List FactD,[⟨7,none,ownF w3.heap.size 1 3 ids.length (b_l ids)⟩,⟨8,none,woF w3.heap.size x b ids⟩,⟨9,none,noF⟩,⟨10,none,noF⟩,⟨11,none,noF⟩,⟨12,none,blkF (fun g=>.pointer (some ⟨g,0,none⟩)) 42 [.slice none 0 0,.slice none 0 0,.slice none 0 0]⟩]=fs:=⟨_,rfl⟩;have F7:FactD.of fs 7=some ⟨7,none,ownF w3.heap.size 1 3 ids.length (b_l ids)⟩:=by rw[← hfs];rfl
 have F8:FactD.of fs 8=some ⟨8,none,woF w3.heap.size x b ids⟩:=by rw[← hfs];rfl
 have F9:FactD.of fs 9=some ⟨9,none,noF⟩:=by rw[← hfs];rfl
 have F10:FactD.of fs 10=some ⟨10,none,noF⟩:=by rw[← hfs];rfl
 have F11:FactD.of fs 11=some ⟨11,none,noF⟩:=by rw[← hfs];rfl
 have F12:FactD.of fs 12=some ⟨12,none,blkF (fun g=>.pointer (some ⟨g,0,none⟩)) 42 [.slice none 0 0,.slice none 0 0,.slice none 0 0]⟩:=by rw[← hfs];rfl
 have FN:∀k,k=0∨k=1∨k=2∨k=3∨k=4∨k=5∨k=6→FactD.of fs k=none:=by rw[← hfs];rintro k (rfl|rfl|rfl|rfl|rfl|rfl|rfl)<;>rfl
 have hk9:(k:Int)+1=((k+1:Nat):Int)∧IntKind.i64.wrap ((k+1:Nat):Int)=((k+1:Nat):Int):=⟨by omega,IntWalk.i64_in _ (by omega)⟩;have hplc:=x.pl.h;refine d_E 11 [⟨9,49,58,fun v=>v⟩,⟨10,59,49,extF 0⟩,⟨11,60,49,extF 1⟩] (l:=[_,_,_,_,_,_,_,_,_,_,_,_,_]) (t:=[_]) (o:=_) (op:=_) rfl rfl (genRF [50,51,52,53,54,55,56,57,58,49,59,60,12] [bkV x,.pointer (some ⟨w.heap.size,2,none⟩),.slice (some ⟨pb,poff,none⟩) x.pl.n x.pl.c,.int .i64 (k:Int),.int .i64 (k:Int),.int .i64 ((k+1:Nat):Int),.slice (some ⟨pb,poff+k*3,none⟩) 1 (x.pl.c-k)] fs) (by kernel_rfl) (by kernel_rfl) (by kernel_rfl) (genRF.free (n:=15) (by rw[← hfs];rfl)) (by rw[← hfs];kernel_rfl) (by kernel_rfl) rfl (genRF.mon (by rw[← hfs];intro y hy;simp only[List.mem_cons,List.not_mem_nil,or_false]at hy;rcases hy with rfl|rfl|rfl|rfl|rfl|rfl<;>first|exact r_I|exact s_S|exact p_O|exact i_g)) (by kernel_rfl) (by intro y hy;simp only[List.mem_cons,List.not_mem_nil,or_false]at hy;rcases hy with rfl|rfl|rfl<;>simp) ?_ ?_
 ·refine⟨?_,?_,?_,?_,?_,?_,?_,?_,?_,?_,?_,?_,?_,trivial⟩
  ·exact RStep.plainD (by kernel_rfl) (genRF.pureStep rfl 50 rfl rfl (by simp) (FN 0 (by simp)) _ rfl fun listed a u D hI hr hn=>a_f rfl (hI.out 5 (by kernel_rfl)) (g_i (HS3.out.next (a_C hI.old)).arg))
  ·exact RStep.plainD (by kernel_rfl) (genRF.pureStep rfl 51 rfl rfl (by simp) (FN 1 (by simp)) _ rfl fun listed a u D hI hr hn=>a_H rfl (hI.out 5 (by kernel_rfl)) (by simp[go_sem]))
  ·exact RStep.plainD (by kernel_rfl) (genRF.pureStep rfl 52 rfl rfl (by simp) (FN 2 (by simp)) _ rfl fun listed a u D hI hr hn=>a_f rfl (genRF.val hI hr hn 1 (by kernel_rfl) (FN 1 (by simp)) rfl rfl) (d_O (by rw[← HPA.out];exact(HS3.out.next (a_C hI.old)).arg.cells.2.2)))
  ·exact RStep.plainD (by kernel_rfl) (genRF.pureStep rfl 53 rfl rfl (by simp) (FN 3 (by simp)) _ rfl fun listed a u D hI hr hn=>a_a (.inl rfl) (hI.out 10 (by kernel_rfl)))
  ·exact RStep.plainD (by kernel_rfl) (genRF.pureStep rfl 54 rfl rfl (by simp) (FN 4 (by simp)) _ rfl fun listed a u D hI hr hn=>a_a (.inl rfl) (hI.out 10 (by kernel_rfl)))
  ·exact RStep.plainD (by kernel_rfl) (genRF.pureStep rfl 55 rfl rfl (by simp) (FN 5 (by simp)) _ rfl fun listed a u D hI hr hn=>t_t rfl (genRF.val hI hr hn 4 (by kernel_rfl) (FN 4 (by simp)) rfl rfl) rfl hk9)
  ·exact RStep.plainD (by kernel_rfl) (genRF.pureStep rfl 56 rfl rfl (by simp) (FN 6 (by simp)) _ rfl fun listed a u D hI hr hn=>p_J rfl (genRF.val hI hr hn 2 (by kernel_rfl) (FN 2 (by simp)) rfl rfl) (genRF.val hI hr hn 3 (by kernel_rfl) (FN 3 (by simp)) rfl rfl) (genRF.val hI hr hn 5 (by kernel_rfl) (FN 5 (by simp)) rfl rfl) hpl2 hplc)
  ·exact RStep.plainD (by kernel_rfl) (genRF.callF rfl 57 rfl rfl (by simp) F7 fun listed a u D hI hr hn=>⟨_,_,c_m rfl (genRF.val hI hr hn 6 (by kernel_rfl) (FN 6 (by simp)) rfl rfl) (by simp[go_sem]),HO8.out _ (a_C hI.old)⟩)
  ·refine RStep.plainD (by kernel_rfl) (genRF.callF rfl 58 rfl rfl (by simp) F8 fun listed a u D hI hr hn=>?_)
   obtain⟨⟨ho7,_⟩,_⟩:=genRF.get hI hr hn 7 (by kernel_rfl) F7 (.inl rfl) (s:=57) rfl;obtain⟨A7,c7,e7,hnc7,hr7⟩:=ho7.read;have hold:=a_C hI.old;exact⟨_,_,b_5 (x:=.tmp 50) (y:=.tmp 57) (v1:=bkV x) (v2:=.slice A7 ids.length c7) rfl (genRF.val hI hr hn 0 (by kernel_rfl) (FN 0 (by simp)) rfl rfl) e7 (by simp[go_sem]),(j_k m x b ps A7 ids.length c7 ids u (HS3.out.next hold).read HR1.out (p_T hr7) HWI.out).mono fun en u' hm=>t_x hm hold.size⟩
  ·refine RStepD.val rfl 49 rfl rfl (by simp) fun listed a u D hI hE hr hn=>⟨a.tmps.getD 58 undef,a_a (.inl rfl) rfl,genRF.told F9 (fun b hb=>hb),?_⟩
   intro p hp e;simp only[List.mem_cons,List.not_mem_nil,or_false]at hp;rcases hp with rfl|rfl|rfl
   ·rfl
   ·cases e
   ·cases e
  ·refine RStepD.val rfl 59 rfl rfl (by simp) fun listed a u D hI hE hr hn=>?_
   have h9:listed.getD 9 false=true:=by obtain⟨e,he,e1,e2⟩:=a_4 (o:=_) (j:=9) (show depB _ 9=true by kernel_rfl);rw[← e1];exact hr e he e2
   have h8:listed.getD 8 false=true:=by obtain⟨e,he,e1,e2⟩:=a_4 (j:=8) (show depB _ 8=true by kernel_rfl);rw[← e1];exact hI.down 9 _ rfl h9 e he e2
   obtain⟨_,⟨y,l8,z,ev,_⟩,_⟩:=g_q hI 8 h8 F8 rfl (s:=58) rfl;have e49:a.tmps.getD 49 undef=a.tmps.getD 58 undef:=hE ⟨9,49,58,fun v=>v⟩ (by simp) h9;rw[ev]at e49;refine⟨bkV y,exec_extract rfl e49 rfl,genRF.told F10 (fun b hb=>hb),?_⟩;intro p hp e;simp only[List.mem_cons,List.not_mem_nil,or_false]at hp;rcases hp with rfl|rfl|rfl
   ·cases e
   ·simp only[e49];rfl
   ·cases e
  ·refine RStepD.val rfl 60 rfl rfl (by simp) fun listed a u D hI hE hr hn=>?_
   have h9:listed.getD 9 false=true:=by obtain⟨e,he,e1,e2⟩:=a_4 (o:=_) (j:=9) (show depB _ 9=true by kernel_rfl);rw[← e1];exact hr e he e2
   have h8:listed.getD 8 false=true:=by obtain⟨e,he,e1,e2⟩:=a_4 (j:=8) (show depB _ 8=true by kernel_rfl);rw[← e1];exact hI.down 9 _ rfl h9 e he e2
   obtain⟨_,⟨y,l8,z,ev,_⟩,_⟩:=g_q hI 8 h8 F8 rfl (s:=58) rfl;have e49:a.tmps.getD 49 undef=a.tmps.getD 58 undef:=hE ⟨9,49,58,fun v=>v⟩ (by simp) h9;rw[ev]at e49;refine⟨z.v,exec_extract rfl e49 rfl,genRF.told F11 (fun b hb=>hb),?_⟩;intro p hp e;simp only[List.mem_cons,List.not_mem_nil,or_false]at hp;rcases hp with rfl|rfl|rfl
   ·cases e
   ·cases e
   ·simp only[e49];rfl
  ·exact RStep.plainD (by kernel_rfl) (genRF.newF rfl 12 rfl rfl (by simp) F12 (ob:=fun _=>.cells #[.slice none 0 0,.slice none 0 0,.slice none 0 0] 42) (v:=fun g=>.pointer (some ⟨g,0,none⟩)) fun listed a u D hI hr hn=>⟨g_s rfl,_,rfl,Blk.new _ _ _,fun _=>Iff.rfl⟩)
 ·intro lt listed a u D hI hE hall hr hn hlate _
  obtain⟨hv8,hw8,hin8⟩:=g_q hI 8 (hall 8 (by simp) (by decide)) F8 rfl (s:=58) rfl;obtain⟨y,l8,⟨za,zn,zc,zh⟩,e58,f0,f1,f2,f3,f4,f5,f6,fd⟩:=hw8;obtain⟨hv12,⟨gb,e12,hbl,hd12⟩,hin12⟩:=g_q hI 12 (hall 12 (by simp) (by decide)) F12 rfl (s:=12) rfl;have e49:a.tmps.getD 49 undef=.tuple #[bkV y,.slice za zn zc]:=by rw[hE ⟨9,49,58,fun v=>v⟩ (by simp) (hall 9 (by simp) (by decide))];exact e58
  have e59:a.tmps.getD 59 undef=bkV y:=by rw[hE ⟨10,59,49,extF 0⟩ (by simp) (hall 10 (by simp) (by decide)),e49];rfl
  have e60:lt=false→a.tmps.getD 60 undef=.slice za zn zc:=fun hf=>by rw[hE ⟨11,60,49,extF 1⟩ (by simp) (hlate hf),e49];rfl
  have hoff:∀c,(y.os.v.ownBlock=some c∨y.pl.v.ownBlock=some c∨(∃ r∈l8,r.v.ownBlock=some c)∨(Sl.v ⟨za,zn,zc,zh⟩).ownBlock=some c)→c≠gb:=fun c hc e=>hI.dis 8 12 c (by decide) hv8 hv12 (fd c hc) ((hd12 c).2 e);have hold:=a_C hI.old;obtain⟨hgb1,hgb2⟩:=hin12 gb ((hd12 gb).2 rfl);replace hgb1:w3.heap.size≤gb:=hgb1;have hbV:=g_m (x:=y) hold hgb1;have hrd:=r_H (w:=w3) (y':=y) f0 f1 f2 f3 f4 f5 f6 (a_M u gb y) hoff hbV (Nat.le_refl _) HS3.out.read.ds;have hbx:BBox (g_j u gb y) gb 42 y:=c_z (show BBox u gb 42 bv0 from hbl) y;have hst:=c_G (show BBox u gb 42 bv0 from hbl) y;have htz:60<a.tmps.size:=by rw[hI.tsz];simp
  have hl:=hI.fill [50,51,52,53,54,55,56,57,58,49,59,60,12,13] (by kernel_rfl);refine p_S (op:=⟨some 60,_,_,_,_,_⟩) rfl rfl (b_m rfl e12 e59 hst) (exec_extract rfl e49 rfl) htz e60 (c_I (a_a (.inr rfl) (l_X htz)) (f_E ?_));obtain⟨V,hV⟩:∃v,g_j u gb y=v:=⟨_,rfl⟩;rw[hV]at hbV hrd hbx ⊢;have HBV:=Lib.hid hbV;have HYV:=Lib.hid hrd.1;have HZV:=Lib.hid hrd.2;have HXV:=Lib.hid hbx;have HGB:=Lib.hid hgb1;have HZN:Hid ((outM b ids).length=zn):=Ords.length hrd.2;clear hI hE hall hr hn hlate HO8 F7 F8 F9 F10 F11 F12 FN hfs hv8 hin8 e58 f0 f1 f2 f3 f4 f5 f6 fd hbl hd12 hin12 hv12 e49 e59 e60 hoff hold hgb1 hgb2 hbV hrd hbx hst htz hV;obtain⟨σ,hσ⟩:∃σ:Nat→Value,∀t,a.tmps.getD t undef=σ t:=⟨_,fun _=>rfl⟩;simp only[hσ]at hl e12;clear hσ;simp only[List.foldl_cons,List.foldl_nil,List.setIfInBounds_toArray,List.set_cons_zero,List.set_cons_succ,e12]at hl;subst hl;clear hk9 e12;have HSV:=Lib.hid (HS3.out.next HBV.out);obtain⟨c0,c1,c2⟩:=HSV.out.arg.cells;obtain⟨m0,m1,m2⟩:=HXV.out.cells;go_wp2_with fail
  refine(g_k x.ds.a x.ds.n x.ds.c b.ds _ (by exact HSV.out.read.ds) (by have:=HDN.out;omega)).mono ?_;rintro e w9 ⟨v9,rfl,hb9,ho9⟩;obtain⟨A9,c9,rfl,hnc9,_⟩:=ho9.read;have HXY:=Lib.hid (HXV.out.below hb9);have HB9:=Lib.hid hb9;have HO9:=Lib.hid ho9;clear hb9 ho9 c0 c1 c2 m0 m1 m2;obtain⟨m0,m1,m2⟩:=HXY.out.cells;have hff:=Blk.free HXY.out;go_upto_region 10 with fail
  have hgV:gb<V.heap.size:=Blk.lt HXV.out;have ho10:OwnK (w9.setCell ⟨gb,0,none⟩ (.slice A9 x.ds.n c9)) V.heap.size 33 6 (.slice A9 x.ds.n c9) x.ds.n (a_0 b.ds):=b_Q HO9.out (d_y HO9.out (.inr hgV));have hon:Only gb w9 (w9.setCell ⟨gb,0,none⟩ (.slice A9 x.ds.n c9)):=(Only.refl _ _).set 0 _;have hY10:=(HYV.out.keep HB9.out).only hon HXY.out;have hZ10:=g_p (Recs.keep HZV.out HB9.out) hon HXY.out;have hX10:BBox (w9.setCell ⟨gb,0,none⟩ (.slice A9 x.ds.n c9)) gb 42 ⟨⟨A9,x.ds.n,c9,hnc9⟩,y.os,y.pl⟩:=Blk.put HXY.out 0 (.slice A9 x.ds.n c9);have hB10:Below w3.heap.size w3 (w9.setCell ⟨gb,0,none⟩ (.slice A9 x.ds.n c9)):=(HBV.out.trans (HB9.out.mono HBV.out.size)).setCell HGB.out _;have hsz10:(w9.setCell ⟨gb,0,none⟩ (.slice A9 x.ds.n c9)).heap.size=w9.heap.size:=hon.size;obtain⟨W9,hW9⟩:∃v,w9.setCell ⟨gb,0,none⟩ (.slice A9 x.ds.n c9)=v:=⟨_,rfl⟩;rw[hW9]at ho10 hY10 hZ10 hX10 hB10 hsz10;rw[hW9];clear hW9 hon m0 m1 m2 hff;obtain⟨g9,c9',e9,_,hg9,hg9l,hcl9,⟨yv,hyv⟩,hfz9,ho11⟩:=p_A (i:=k*6+5) (z:=.bool true) ho10 (by omega);injection e9 with e9 _ e9c;subst e9;subst e9c;rw[hyv]at hcl9;rw[j_n HDK.out,←HRS0.out]at ho11;have hgne:g9≠gb:=by omega
  have hB11:Below w3.heap.size w3 (W9.setCell ⟨g9,k*6+5,none⟩ (.bool true)):=hB10.setCell (by have:=HBV.out.size;show _≤g9;omega) _;have hBV11:Below V.heap.size W9 (W9.setCell ⟨g9,k*6+5,none⟩ (.bool true)):=(Below.refl _ _).setCell hg9 _;have hs11:V.heap.size≤(W9.setCell ⟨g9,k*6+5,none⟩ (.bool true)).heap.size:=by have:=HB9.out.size;simp[World.setCell];omega
  have HX11:Hid (BBox (W9.setCell ⟨g9,k*6+5,none⟩ (.bool true)) gb 42 ⟨⟨some ⟨g9,0,none⟩,x.ds.n,c9,hnc9⟩,y.os,y.pl⟩):=(Below.heap_setCell _ _ _ _ (Ne.symm hgne)).trans hX10;have hrl:(a_n b.ds i).length=x.ds.n:=by have:=ho11.len;rw[d_H]at this;omega
  have HY11:Hid (BkR (W9.setCell ⟨g9,k*6+5,none⟩ (.bool true)) (W9.setCell ⟨g9,k*6+5,none⟩ (.bool true)).heap.size ⟨⟨some ⟨g9,0,none⟩,x.ds.n,c9,hnc9⟩,y.os,y.pl⟩ ⟨a_n b.ds i,inM b ids,a_b b.pl ids⟩ l8):=
   ⟨(b_O (n:=0) (s:=⟨some ⟨g9,0,none⟩,x.ds.n,c9,hnc9⟩) ho11).2,Recs.more (Recs.keep hY10.os hBV11) hs11,(hY10.pl.keep hBV11).more hs11,hY10.rt⟩
  have HZ11:Hid (Ords (W9.setCell ⟨g9,k*6+5,none⟩ (.bool true)) (W9.setCell ⟨g9,k*6+5,none⟩ (.bool true)).heap.size za zn (outM b ids)):=Recs.more (Recs.keep hZ10 hBV11) hs11;have HB11:=Lib.hid hB11;obtain⟨m0,m1,m2⟩:=hX10.cells;replace m0:W9.cell? ⟨gb,0,none⟩=some (.slice (some ⟨g9,0,none⟩) x.ds.n c9):=m0;clear ho10 hY10 hZ10 hX10 hB10 hsz10 hgV hgne hg9 hg9l hyv ho11 hB11 hBV11 hs11 hrl HXY HO9 HXV HYV HZV HSV;go_upto_region 11 with fail
  obtain⟨W10,hW10⟩:∃v,W9.setCell ⟨g9,k*6+5,none⟩ (.bool true)=v:=⟨_,rfl⟩;rw[hW10]at HX11 HY11 HZ11 HB11;rw[hW10];clear hW10 m0 m1 m2 hcl9 hfz9;obtain⟨m0,m1,m2⟩:=HX11.out.cells;obtain⟨⟨mc,fk,fe⟩,hMK⟩:∃z,b_K m (a_n b.ds i) (inM b ids) (a_b b.pl ids)=z:=⟨_,rfl⟩;have HS11:=Lib.hid (HS3.out.next HB11.out);rw[hMK]at HRB;have HMK:Hid (b_K m (a_n b.ds i) (inM b ids) (l8.map (·.rt))=(mc,fk,fe)):=by show _=_;rw[HY11.out.rt];exact hMK
  clear hMK;go_wp2_with fail
  refine(f_N base (.pointer q) m (some ⟨g9,0,none⟩) x.ds.n c9 (a_n b.ds i) y.os.a y.os.n y.os.c (inM b ids) y.pl.a y.pl.n y.pl.c l8 _ hnc9 y.os.h (by exact HS11.out.mp) (by exact HY11.out.ds) (by exact HY11.out.os) (by exact HY11.out.pl)).mono ?_;rintro e w11 ⟨v11,l11,rfl,hmk⟩;rw[HMK.out];have hb11:Below W10.heap.size W10 w11:=hmk.new.old;clear hmk m0 m1 m2 HS11;simp only[Route.faultV];go_upto_region 12 with fail
  have b12:Below w11.heap.size w11 (w11.alloc (.cells #[.int .i64 (fk:Int),.int .i64 fe] 108)):=(Below.refl _ _).alloc (Nat.le_refl _) _;have hbw:Below W10.heap.size W10 (w11.alloc (.cells #[.int .i64 (fk:Int),.int .i64 fe] 108)):=hb11.trans (b12.mono hb11.size);have HFB:Hid (Blk (w11.alloc (.cells #[.int .i64 (fk:Int),.int .i64 fe] 108)) w11.heap.size 108 [.int .i64 (fk:Int),.int .i64 fe]):=Blk.new _ _ _;have HX12:=Lib.hid (HX11.out.below hbw);have HY12:=Lib.hid (HY11.out.next hbw);have HZ12:=Lib.hid (Recs.more (Recs.keep HZ11.out hbw) hbw.size);have HB12:=Lib.hid (HB11.out.trans (hbw.mono HB11.out.size));obtain⟨W12,hW12⟩:∃v,w11.alloc (.cells #[.int .i64 (fk:Int),.int .i64 fe] 108)=v:=⟨_,rfl⟩;obtain⟨g12,hg12⟩:∃v,w11.heap.size=v:=⟨_,rfl⟩;rw[hW12]at HFB HX12 HY12 HZ12 HB12 ⊢;rw[hg12]at HFB ⊢;clear hW12 hg12 b12 hbw hb11 HX11 HY11 HZ11 HB11 HMK;have n0:=HFB.out.cell (i:=0) rfl;have n1:=HFB.out.cell (i:=1) rfl;obtain⟨bb,hbb⟩:∃t,(fe==0)=t:=⟨_,rfl⟩;go_wp2_with fail
  refine(Route.pgood_v fk fe bb _ hbb).mono ?_;rintro e w13 ⟨rfl,hb13⟩;have HX13:=Lib.hid (HX12.out.below hb13);have HY13:=Lib.hid (HY12.out.next hb13);have HZ13:Hid (Ords w13 w13.heap.size za zn (outM b ids)):=Recs.more (Recs.keep HZ12.out hb13) hb13.size;have HB13:=Lib.hid (HB12.out.trans (hb13.mono HB12.out.size));have HS13:=Lib.hid (HS3.out.next HB13.out);clear hb13 HX12 HY12 HZ12 HB12 HFB n0 n1;cases bb with
  |false=>
   have HG:Hid ((bk0,(21:Int))=a_W m b i n):=by show _=_;rw[HRB.out,if_pos (by simpa using hbb)]
   obtain⟨y0,y1,y2⟩:=HS13.out.res.cells;have hff:=Blk.free HS13.out.res;have HRS:=Lib.hid (a_i HS13.out.res);have HBR:=Lib.hid (a_r (g:=w.heap.size+1) HS13.out.old (by omega));go_wp2_with fail
   refine bodyPost_ret (v:=.tuple #[.agg #[.slice none 0 0,.slice none 0 0,.slice none 0 0],.int .i64 21]) ?_ rfl (a_A HG.out HBR.out);obtain⟨q0,q1,q2⟩:=HRS.out;simp[results,Tryz.results15,go_sem,q0,q1,q2]
  |true=>
  have hfe:fe=0:=by simpa using hbb
  subst hfe
  have HRC:Hid (a_W m b i n=retT m b (a_n b.ds i) T):=by
   show _=_;rw[HRB.out,if_neg (by decide)]
  clear hbb HRB;obtain⟨outs,houts⟩:∃l,outM b ids=l:=⟨_,rfl⟩
  have HI0:Hid (AgI m (a_n b.ds i) outs T 0 n (inM b ids) (a_b b.pl ids)):=by
   have h1:=p_R m (a_n b.ds i) b ids n HAO.out z2 HBN.out.1 HBN.out.2;rw[HT.out,houts]at h1;exact h1
  have HAU:Hid (AscO outs):=by show AscO _;rw[← houts];exact List.Pairwise.filter _ HAO.out
  have HR0:Hid (RLm w3 gb za zn outs ⟨⟨some ⟨g9,0,none⟩,x.ds.n,c9,hnc9⟩,y.os,y.pl⟩ ⟨a_n b.ds i,inM b ids,a_b b.pl ids⟩ l8 w13):=⟨HB13.out,HX13.out,HY13.out,by rw[← houts];exact HZ13.out⟩;rw[houts]at HZN;have hznb:zn≤9223372036854775807:=by have:=HZ13.out.le;exact this
  clear HS13 HB13 HX13 HY13 HZ13 HT houts;go_wp2_with fail
  go_loopw [3,87] (fun nv iv wr=>∃(j:Nat) (left:Int) (z:Bv) (os:List FleetMath.Ord) (p:List Rte) (lz:List RM),nv=.int .i64 left∧iv=.int .i64 j∧j≤zn∧Hid (AgI m (a_n b.ds i) outs T j left os p)∧Hid (RLm w3 gb za zn outs z ⟨a_n b.ds i,os,p⟩ lz wr)) (fun _ iv _=>zn-(intOf iv).toNat)
  case atStart=>exact⟨0,n,_,_,_,l8,rfl,rfl,Nat.zero_le _,HI0,HR0⟩
  case round=>
   clear HI0 HR0;obtain⟨j,left,z,os,p,lz,rfl,rfl,hj,HAG,HRL⟩:=hrel;by_cases hlt:j<zn
   case neg=>
    have HGA:Hid (a_W m b i n=b_H m b ⟨a_n b.ds i,os,p⟩):=by
     show _=_;have h1:=HAG.out.go;rw[List.drop_of_length_le (by rw[HZN.out];omega)]at h1;rw[HRC.out,←h1];rfl
    have HSE:=Lib.hid (HS3.out.next HRL.out.bel);obtain⟨m0,m1,m2⟩:=HRL.out.box.cells;clear HAG HRC;obtain⟨c0,c1,c2⟩:=HSE.out.arg.cells;go_wp2_with fail
    refine(d_C base q m x b ps z ⟨a_n b.ds i,os,p⟩ lz _ (by exact HSE.out.mp) (by exact HSE.out.read) (by exact HRL.out.bk)).mono ?_;rintro e wg ⟨ya,psn,rfl,hng⟩;have HSG:=Lib.hid (HSE.out.next hng.old);have HBNN:=Lib.hid (c_H (x:=ya) HSE.out.old HSE.out.res hng (by omega));have hsg:=HSG.out;obtain⟨y0,y1,y2⟩:=HSG.out.res.cells;have hff:=Blk.free HSG.out.res;have HRS:=Lib.hid (a_t HSG.out.res ya);clear hng HSE hsg c0 c1 c2;go_wp2_with fail
    refine bodyPost_ret (v:=.tuple #[bkV ya,.int .i64 (b_H m b ⟨a_n b.ds i,os,p⟩).2]) ?_ rfl (by rw[HGA.out];exact⟨ya,psn,rfl,HBNN.out⟩);obtain⟨q0,q1,q2⟩:=HRS.out;simp[results,Tryz.results15,go_sem,q0,q1,q2]
   obtain⟨ob,off,o,rfl,_,ho,hdr,c0,c1,c2,c3,c4,c5,c6,c7,c8,c9'⟩:=Ords.at_ HRL.out.outs hlt;obtain⟨⟨nb,sk,e0⟩,hwr⟩:∃r,g_n m ⟨a_n b.ds i,os,p⟩ o left=r:=⟨_,rfl⟩;have HNX:=Lib.hid (HAG.out.next HAU.out hdr (by rw[HZN.out];exact hlt) hwr);have HWR:=Lib.hid hwr;have HR1:=Lib.hid (HRL.out.next ((Below.refl _ _).alloc (Nat.le_refl _) (.cells #[.int .i64 o.id,.int .i64 o.size,.int .i64 o.pick.place,.int .i64 o.pick.win.fr,.int .i64 o.pick.win.to,.int .i64 o.pick.serv,.int .i64 o.drop.place,.int .i64 o.drop.win.fr,.int .i64 o.drop.win.to,.int .i64 o.drop.serv] 31)));have hos40:os.length≤40:=by have:=HAG.out.few;omega
   obtain⟨m0,m1,m2⟩:=HR1.out.box.cells;have HOA:Hid (AscO os):=HAG.out.asc;have hzc:=zh;clear ho hdr hwr HAG;go_wp2_with fail
   refine(h_w base q m z ⟨a_n b.ds i,os,p⟩ lz o left _ (by exact(HS3.out.next HR1.out.bel).mp) (by exact HR1.out.bk) hos40 HOA.out).mono ?_;rintro e w15 ⟨y2,ps2,rfl,hb15,hk15⟩;rw[HWR.out]at hk15 ⊢;have b16:Below w15.heap.size w15 (w15.alloc (.cells #[y2.ds.v,y2.os.v,y2.pl.v] 42)):=(Below.refl _ _).alloc (Nat.le_refl _) _;have HR16:=Lib.hid ((HR1.out.next hb15).next b16);have HK16:=Lib.hid (BkR.next hk15 b16);have HX16:=Lib.hid (BBox.new w15 42 y2);clear hb15 hk15 b16 HRL HR1 c0 c1 c2 c3 c4 c5 c6 c7 c8 c9' m0 m1 m2 HWR HOA hos40;go_upto_region 18 with fail
   obtain⟨W16,hW16⟩:∃v,w15.alloc (.cells #[y2.ds.v,y2.os.v,y2.pl.v] 42)=v:=⟨_,rfl⟩;obtain⟨g16,hg16⟩:∃v,w15.heap.size=v:=⟨_,rfl⟩;rw[hW16]at HR16 HK16 HX16 ⊢;rw[hg16]at HX16 ⊢;clear hW16 hg16;have HS16:=Lib.hid (HS3.out.next HR16.out.bel);by_cases he:e0=0
   case neg=>
    have e1:(e0==0)=false:=by simpa using he
    have HG:Hid ((bk0,e0)=a_W m b i n):=by show _=_;rw[HRC.out,HNX.out.1 he];rfl
    clear he;obtain⟨y0,y1,y2⟩:=HS16.out.res.cells;have hff:=Blk.free HS16.out.res;have HRS:=Lib.hid (a_i HS16.out.res);have HBR:=Lib.hid (a_r (g:=w.heap.size+1) HS16.out.old (by omega));go_wp2_with fail
    refine bodyPost_ret (v:=.tuple #[.agg #[.slice none 0 0,.slice none 0 0,.slice none 0 0],.int .i64 e0]) ?_ rfl (a_A HG.out HBR.out);obtain⟨q0,q1,q2⟩:=HRS.out;simp[results,Tryz.results15,go_sem,q0,q1,q2]
   subst he;obtain⟨hnds,hk0,hkl,hag⟩:=HNX.out.2 rfl;have HAG2:=Lib.hid hag;have wsub:IntKind.i64.wrap (left-sk)=left-sk:=IntWalk.i64_in _ (by have:=hag.lo;have:=hag.hi;omega);obtain⟨nds,nos,npl⟩:=nb;replace hnds:nds=a_n b.ds i:=hnds;have HNDS:=Lib.hid hnds;have HR17:=Lib.hid (HR16.out.put HGB.out HK16.out);rw[HNDS.out]at HR17;obtain⟨d0,d1,d2⟩:=HX16.out.cells;obtain⟨m0,m1,m2⟩:=HR16.out.box.cells;have hff:=Blk.free HR16.out.box;clear hnds hk0 hkl hag HR16 HK16 HX16 HS16 HNX;go_wp2_with fail
   go_roundw
   case rel=>exact⟨j+1,left-sk,y2,nos,npl,ps2,by go_num,by go_num,by omega,HAG2,HR17⟩
   case measure=>simp[intOf];omega
end Pln
end Go.Proofs.YtkpnmpjnpcjohaaGreat
