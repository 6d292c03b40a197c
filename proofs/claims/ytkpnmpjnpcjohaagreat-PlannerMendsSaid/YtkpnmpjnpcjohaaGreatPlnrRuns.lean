import Derived.Test.YtkpnmpjnpcjohaaGreatPlnrEs
set_option linter.unusedSimpArgs false
set_option linter.unusedVariables false
set_option maxHeartbeats 16000000
set_option maxRecDepth 100000
namespace Go.Proofs.YtkpnmpjnpcjohaaGreat
open ChangeShapes WideShapes ChangeAt RowKit Mem GeoMath FleetMath PlanMath CertMath AuditMath InsertMath RepairMath PlannerMath Rec Geo Span Deal Keep Plan Cert Audit
namespace Pln
structure RS(W:World)(z:Option Addr)(go:Nat)(L:List (Nat×Bv×Bk×List RM))(u:World):Prop where
 old:Below W.heap.size W u
 map:MapP u 92 W.heap.size (.pointer z) kM
 ord:OBox u go kO
 drv:DBox u (go+1) kD
 bks:∀p∈L,BBox u p.1 42 p.2.1∧BkR u u.heap.size p.2.1 p.2.2.1 p.2.2.2
section
variable {W u u' : World} {z : Option Addr} {go : Nat} {L : List (Nat × Bv × Bk × List RM)}
theorem RS.next(h:RS W z go L u)(hb:Below u.heap.size u u'):RS W z go L u':=⟨h.old.trans (hb.mono h.old.size),h.map.keep hb,h.ord.below hb,h.drv.below hb,fun p hp=>⟨(h.bks p hp).1.below hb,(h.bks p hp).2.next hb⟩⟩
theorem RS.keep{y:Bv}{r:Bk}{ps:List RM}(h:RS W z go L u)(hn:BkN u u' y r ps):RS W z go ((u'.heap.size,y,r,ps)::L) (u'.alloc (.cells #[y.ds.v,y.os.v,y.pl.v] 42)):=by
 have hb:Below u'.heap.size u' (u'.alloc (.cells #[y.ds.v,y.os.v,y.pl.v] 42)):=(Below.refl _ _).alloc (Nat.le_refl _) _;have h1:=h.next (hn.old.trans (hb.mono hn.old.size));refine⟨h1.old,h1.map,h1.ord,h1.drv,fun p hp=>?_⟩;rcases List.mem_cons.1 hp with rfl|hp
 ·exact⟨BBox.new _ _ _,hn.read.next hb⟩
 ·exact h1.bks p hp
theorem RS.drop{L':List (Nat×Bv×Bk×List RM)}(h:RS W z go L u)(hs:∀p∈L',p∈L):RS W z go L' u:=⟨h.old,h.map,h.ord,h.drv,fun p hp=>h.bks p (hs p hp)⟩
end
theorem t_B{ps:List RM}{r:Rte}(h:ps.map (·.rt)=[r]):∃a n c,ps=[⟨r,a,n,c⟩]:=by
 match ps,h with
 |[⟨rt,a,n,c⟩],h=>simp at h;subst h;exact⟨a,n,c,rfl⟩
theorem i_h{u:World}{g n k:Nat}{t:TypeId}{vs:List Value}(h:Blk u g t vs)(hl:vs.length=n*k)(hn:n≤64):Recs u u.heap.size (some ⟨g,0,none⟩) n k vs:=
 ⟨hl,by unfold maxLen;omega,fun _=>⟨g,0,rfl,h.lt,fun j u hu=>by rw[Nat.zero_add];exact h.cell hu⟩⟩
abbrev bV(g:Nat):Bv:=⟨⟨some ⟨g+1+1,0,none⟩,1,1,Nat.le_refl _⟩,sl0,⟨some ⟨g+1+1+1,0,none⟩,1,1,Nat.le_refl _⟩⟩
theorem RS.start{W w1:World}{z:Option Addr}(h:Below W.heap.size W w1)(hm:MapP w1 92 W.heap.size (.pointer z) kM):RS W z w1.heap.size [(w1.heap.size+1+1+1+1,bV w1.heap.size,kB,[newR 4])] (((((w1.alloc (.cells #[.int .i64 1,.int .i64 3,.int .i64 0,.int .i64 2,.int .i64 9,.int .i64 1,.int .i64 1,.int .i64 0,.int .i64 20,.int .i64 2] 31)).alloc (.cells #[.int .i64 4,.int .i64 3,.int .i64 1,.int .i64 1,.int .i64 30,.bool false] 33)).alloc (.cells #[.int .i64 4,.int .i64 3,.int .i64 1,.int .i64 1,.int .i64 30,.bool false] 33)).alloc (.cells #[.int .i64 4,.int .i64 0,.slice none 0 0] 37)).alloc (.cells #[.slice (some ⟨w1.heap.size+1+1,0,none⟩) 1 1,.slice none 0 0,.slice (some ⟨w1.heap.size+1+1+1,0,none⟩) 1 1] 42)):=by
 obtain⟨u1,hu1⟩:∃u,w1.alloc (.cells #[.int .i64 1,.int .i64 3,.int .i64 0,.int .i64 2,.int .i64 9,.int .i64 1,.int .i64 1,.int .i64 0,.int .i64 20,.int .i64 2] 31)=u:=⟨_,rfl⟩;obtain⟨u2,hu2⟩:∃u,u1.alloc (.cells #[.int .i64 4,.int .i64 3,.int .i64 1,.int .i64 1,.int .i64 30,.bool false] 33)=u:=⟨_,rfl⟩;obtain⟨u3,hu3⟩:∃u,u2.alloc (.cells #[.int .i64 4,.int .i64 3,.int .i64 1,.int .i64 1,.int .i64 30,.bool false] 33)=u:=⟨_,rfl⟩;obtain⟨u4,hu4⟩:∃u,u3.alloc (.cells #[.int .i64 4,.int .i64 0,.slice none 0 0] 37)=u:=⟨_,rfl⟩;have s1:u1.heap.size=w1.heap.size+1:=by rw[← hu1];simp
 have s2:u2.heap.size=w1.heap.size+1+1:=by rw[← hu2];simp[s1]
 have s3:u3.heap.size=w1.heap.size+1+1+1:=by rw[← hu3];simp[s2]
 have s4:u4.heap.size=w1.heap.size+1+1+1+1:=by rw[← hu4];simp[s3]
 rw[hu1,hu2,hu3,hu4];have b1:Below w1.heap.size w1 u1:=by rw[← hu1];exact(Below.refl _ _).alloc (Nat.le_refl _) _
 have b2:Below u1.heap.size u1 u2:=by rw[← hu2];exact(Below.refl _ _).alloc (Nat.le_refl _) _
 have b3:Below u2.heap.size u2 u3:=by rw[← hu3];exact(Below.refl _ _).alloc (Nat.le_refl _) _
 have b4:Below u3.heap.size u3 u4:=by rw[← hu4];exact(Below.refl _ _).alloc (Nat.le_refl _) _
 have k1:OBox u1 w1.heap.size kO:=by rw[← hu1];exact Blk.new _ _ _
 have k2:DBox u2 (w1.heap.size+1) kD:=by rw[← hu2,←s1];exact Blk.new _ _ _
 have k3:Blk u3 (w1.heap.size+1+1) 33 (a_0 [kD]):=by rw[← hu3,←s2];exact Blk.new _ _ _
 have k4:Blk u4 (w1.heap.size+1+1+1) 37 (rmsV [newR 4]):=by rw[← hu4,←s3];exact Blk.new _ _ _
 have h4:BkR u4 u4.heap.size (bV w1.heap.size) kB [newR 4]:=by
  refine⟨i_h (k3.below b4 k3.lt) rfl (by show 1≤64;decide),Recs.none_,⟨i_h k4 rfl (by show 1≤64;decide),fun r hr=>?_⟩,rfl⟩;rw[List.mem_singleton.1 hr];exact⟨Recs.none_,Nat.le_refl _,by simp⟩
 obtain⟨u5,hu5⟩:∃u,u4.alloc (.cells #[.slice (some ⟨w1.heap.size+1+1,0,none⟩) 1 1,.slice none 0 0,.slice (some ⟨w1.heap.size+1+1+1,0,none⟩) 1 1] 42)=u:=⟨_,rfl⟩;have b5:Below u4.heap.size u4 u5:=by rw[← hu5];exact(Below.refl _ _).alloc (Nat.le_refl _) _
 have k5:BBox u5 (w1.heap.size+1+1+1+1) 42 (bV w1.heap.size):=by rw[← hu5,←s4];exact BBox.new u4 _ (bV w1.heap.size)
 rw[hu5];have bb:Below w1.heap.size w1 u5:=b1.trans ((b2.mono b1.size).trans ((b3.mono (by omega)).trans ((b4.mono (by omega)).trans (b5.mono (by omega)))));refine⟨h.trans (bb.mono h.size),hm.keep bb,((((k1.below b2).below b3).below b4).below b5),(((k2.below b3).below b4).below b5),fun p hp=>?_⟩;rw[List.mem_singleton.1 hp];exact⟨k5,h4.next b5⟩
theorem b_B(u:World):Calls Tryz.prog 3 #[] u (a_y u (.bool true)):=by
 have HB0:Hid (Below u.heap.size u (u.alloc (.cells #[.int .i64 0,.int .i64 5,.int .i64 7,.int .i64 0] 3))):=(Below.refl _ _).alloc (Nat.le_refl _) _
 have HI0:Hid (Ints (u.alloc (.cells #[.int .i64 0,.int .i64 5,.int .i64 7,.int .i64 0] 3)) (u.heap.size+1) (some ⟨u.heap.size,0,none⟩) 4 [0,5,7,0]):=by
  have hb:=Blk.new u 3 [.int .i64 0,.int .i64 5,.int .i64 7,.int .i64 0];exact⟨rfl,by decide,fun _=>⟨u.heap.size,0,rfl,by simp,fun j x hx=>by rw[Nat.zero_add];exact hb.cell hx⟩⟩
 go_enter Tryz.func3,Tryz.ntmps3;go_wp2_with fail
 refine(t_j 2 0 _ 4 4 [0,5,7,0] _ (by exact Reads.more HI0.out (by simp)) (by decide)).mono ?_;rintro e w1 ⟨q,rfl,hq,hb1,hm1⟩
 obtain⟨z,rfl⟩:∃z,q=some z:=by cases q with
  |none=>cases hq
  |some z=>exact⟨z,rfl⟩
 have R0:=Lib.hid (RS.start (HB0.out.trans (hb1.mono HB0.out.size)) (MapP.lower hm1 HB0.out.size));clear hb1 hm1 hq HB0 HI0;go_upto_region 7 with fail
 obtain⟨V0,hV0⟩:∃v,(((((w1.alloc (.cells #[.int .i64 1,.int .i64 3,.int .i64 0,.int .i64 2,.int .i64 9,.int .i64 1,.int .i64 1,.int .i64 0,.int .i64 20,.int .i64 2] 31)).alloc (.cells #[.int .i64 4,.int .i64 3,.int .i64 1,.int .i64 1,.int .i64 30,.bool false] 33)).alloc (.cells #[.int .i64 4,.int .i64 3,.int .i64 1,.int .i64 1,.int .i64 30,.bool false] 33)).alloc (.cells #[.int .i64 4,.int .i64 0,.slice none 0 0] 37)).alloc (.cells #[.slice (some ⟨w1.heap.size+1+1,0,none⟩) 1 1,.slice none 0 0,.slice (some ⟨w1.heap.size+1+1+1,0,none⟩) 1 1] 42))=v:=⟨_,rfl⟩;obtain⟨g,hg⟩:∃v,w1.heap.size=v:=⟨_,rfl⟩;rw[hg]at hV0;rw[hg,hV0]at R0;rw[hg];try rw[hV0]
 clear hV0 hg;obtain⟨gb,hgb⟩:∃v,g+1+1+1+1=v:=⟨_,rfl⟩;obtain⟨bx,hbx⟩:∃v,bV g=v:=⟨_,rfl⟩;rw[hgb,hbx]at R0;rw[hgb];have HBX:=Lib.hid hbx;clear hgb hbx;obtain⟨o0,o1,o2,o3,o4,o5,o6,o7,o8,o9⟩:=R0.out.ord.cells;have hk7:=R0.out.bks (gb,bx,kB,[newR 4]) (by simp);obtain⟨c0,c1,c2⟩:=hk7.1.cells;have HK:=Lib.hid hk7.2;clear hk7;go_wp2_with fail
 refine(c_2 u.heap.size (some z) kM bx kB [newR 4] kO 9 _ (by exact R0.out.map) (by exact HK.out)).mono ?_;rintro e w2 ⟨yx,pyx,rfl,hn⟩;rw[k_p1]at hn ⊢;have R1:=Lib.hid (R0.out.keep hn);clear hn HK c0 c1 c2 o0 o1 o2 o3 o4 o5 o6 o7 o8 o9 R0;go_upto_region 8 with fail
 obtain⟨w3,hw3⟩:∃v,w2.alloc (.cells #[yx.ds.v,yx.os.v,yx.pl.v] 42)=v:=⟨_,rfl⟩;obtain⟨gyx,hgy⟩:∃v,w2.heap.size=v:=⟨_,rfl⟩;rw[hw3,hgy]at R1;rw[hw3];try rw[hgy]
 clear hw3 hgy w2;replace R1:=Lib.hid (R1.out.drop (L':=[(gb,bx,kB,[newR 4]),(gyx,yx,kX,pyx)]) (by intro p hp;simp only[List.mem_cons,List.not_mem_nil,or_false]at hp ⊢;rcases hp with rfl|rfl<;>simp));obtain⟨gx,hgx⟩:∃v,gyx=v:=⟨_,rfl⟩;rw[hgx]at R1;try rw[hgx]
 clear hgx;obtain⟨xa,xn,xc,hpx⟩:=t_B (r:=⟨4,0,[⟨1,false⟩,⟨1,true⟩]⟩) (by have h1:=(R1.out.bks (gx,yx,kX,pyx) (by simp)).2.rt;exact h1);subst hpx;obtain⟨c0,c1,c2⟩:=(R1.out.bks (gb,bx,kB,[newR 4]) (by simp)).1.cells;go_wp2_with fail
 refine(pright_any u.heap.size (some z) kM bv0 bk0 [] true _ (by exact R1.out.map) (BkR.zero _ _) k_r0).mono ?_;rintro e w2 ⟨rfl,hb2⟩;have R2:=Lib.hid (R1.out.next hb2);clear hb2 R1 c0 c1 c2;obtain⟨c0,c1,c2⟩:=(R2.out.bks (gb,bx,kB,[newR 4]) (by simp)).1.cells;have HK:=Lib.hid (R2.out.bks (gb,bx,kB,[newR 4]) (by simp)).2;go_wp2_with fail
 refine(pright_any u.heap.size (some z) kM bx kB [newR 4] true _ (by exact R2.out.map) (by exact HK.out) k_r1).mono ?_;rintro e w3 ⟨rfl,hb3⟩;have R3:=Lib.hid (R2.out.next hb3);clear hb3 R2 c0 c1 c2 HK;obtain⟨c0,c1,c2⟩:=(R3.out.bks (gx,yx,kX,[⟨⟨4,0,[⟨1,false⟩,⟨1,true⟩]⟩,xa,xn,xc⟩]) (by simp)).1.cells;have HK:=Lib.hid (R3.out.bks (gx,yx,kX,[⟨⟨4,0,[⟨1,false⟩,⟨1,true⟩]⟩,xa,xn,xc⟩]) (by simp)).2;have hxn:yx.pl.n=1:=HK.out.pl.length.symm;obtain⟨xb,xoff,xr,hxa,_,hxr,_,k0,k1,k2,hst,hrc⟩:=HK.out.pl.at_ (i:=0) (by show 0<yx.pl.n;omega);simp at hxr;subst hxr;have HST:=Lib.hid hst;replace c2:w3.cell? ⟨gx,2,none⟩=some (.slice (some ⟨xb,xoff,none⟩) 1 yx.pl.c):=by rw[← hxa,←hxn];exact c2
 have hxc2:1≤yx.pl.c:=by rw[← hxn];exact yx.pl.h
 rw[Nat.zero_mul,Nat.add_zero]at k0 k1 k2;have HS4:Hid (Stps (w3.alloc (.cells #[.int .i64 1,.bool false,.int .i64 1,.bool true] 48)) (w3.alloc (.cells #[.int .i64 1,.bool false,.int .i64 1,.bool true] 48)).heap.size (some ⟨w3.heap.size,0,none⟩) 2 [⟨1,false⟩,⟨1,true⟩]):=i_h (Blk.new w3 48 (a_D [⟨1,false⟩,⟨1,true⟩])) rfl (by decide);have b4:Below w3.heap.size w3 (w3.alloc (.cells #[.int .i64 1,.bool false,.int .i64 1,.bool true] 48)):=(Below.refl _ _).alloc (Nat.le_refl _) _;have HSX:Hid (Stps (w3.alloc (.cells #[.int .i64 1,.bool false,.int .i64 1,.bool true] 48)) (w3.alloc (.cells #[.int .i64 1,.bool false,.int .i64 1,.bool true] 48)).heap.size xa xn [⟨1,false⟩,⟨1,true⟩]):=Recs.more (Recs.keep HST.out b4) b4.size;have R4:=Lib.hid (R3.out.next b4);clear hst hxa hxn HK R3 b4 hrc;go_wp2_with fail
 refine(k_D xa (some ⟨w3.heap.size,0,none⟩) xn xc 2 2 [⟨1,false⟩,⟨1,true⟩] [⟨1,false⟩,⟨1,true⟩] _ _ _ (by exact HSX.out) (by exact HS4.out)).mono ?_;rintro e w5 ⟨rfl,dd,hd⟩;have R5:=Lib.hid (R4.out.next (u':=w5) (by rw[hd];exact a_l (Below.refl _ _) _));rw[decide_eq_true rfl];clear hd R4 HSX HS4 HST c0 c1 c2 k0 k1 k2 hxc2;go_upto_region 10 with fail
 obtain⟨o0,o1,o2,o3,o4,o5,o6,o7,o8,o9⟩:=R5.out.ord.cells;have hk10:=R5.out.bks (gb,bx,kB,[newR 4]) (by simp);obtain⟨c0,c1,c2⟩:=hk10.1.cells;have HK:=Lib.hid hk10.2;clear hk10;go_wp2_with fail
 refine(c_2 u.heap.size (some z) kM bx kB [newR 4] kO 0 _ (by exact R5.out.map) (by exact HK.out)).mono ?_;rintro e w2 ⟨y10,py10,rfl,hn⟩;rw[k_p2]at hn ⊢;have R6:=Lib.hid (R5.out.keep hn);clear hn HK c0 c1 c2 o0 o1 o2 o3 o4 o5 o6 o7 o8 o9 R5;go_upto_region 11 with fail
 obtain⟨w3,hw3⟩:∃v,w2.alloc (.cells #[y10.ds.v,y10.os.v,y10.pl.v] 42)=v:=⟨_,rfl⟩;obtain⟨gy10,hgy⟩:∃v,w2.heap.size=v:=⟨_,rfl⟩;rw[hw3,hgy]at R6;rw[hw3];try rw[hgy]
 clear hw3 hgy w2;replace R6:=Lib.hid (R6.out.drop (L':=[(gb,bx,kB,[newR 4]),(gx,yx,kX,[⟨⟨4,0,[⟨1,false⟩,⟨1,true⟩]⟩,xa,xn,xc⟩])]) (by intro p hp;simp only[List.mem_cons,List.not_mem_nil,or_false]at hp ⊢;rcases hp with rfl|rfl<;>simp));obtain⟨o0,o1,o2,o3,o4,o5,o6,o7,o8,o9⟩:=R6.out.ord.cells;have hk11:=R6.out.bks (gx,yx,kX,[⟨⟨4,0,[⟨1,false⟩,⟨1,true⟩]⟩,xa,xn,xc⟩]) (by simp);obtain⟨c0,c1,c2⟩:=hk11.1.cells;have HK:=Lib.hid hk11.2;clear hk11;go_wp2_with fail
 refine(c_2 u.heap.size (some z) kM yx kX [⟨⟨4,0,[⟨1,false⟩,⟨1,true⟩]⟩,xa,xn,xc⟩] kO 9 _ (by exact R6.out.map) (by exact HK.out)).mono ?_;rintro e w2 ⟨y11,py11,rfl,hn⟩;rw[k_p3]at hn ⊢;have R7:=Lib.hid (R6.out.keep hn);clear hn HK c0 c1 c2 o0 o1 o2 o3 o4 o5 o6 o7 o8 o9 R6;go_upto_region 12 with fail
 obtain⟨w3,hw3⟩:∃v,w2.alloc (.cells #[y11.ds.v,y11.os.v,y11.pl.v] 42)=v:=⟨_,rfl⟩;obtain⟨gy11,hgy⟩:∃v,w2.heap.size=v:=⟨_,rfl⟩;rw[hw3,hgy]at R7;rw[hw3];try rw[hgy]
 clear hw3 hgy w2;replace R7:=Lib.hid (R7.out.drop (L':=[(gb,bx,kB,[newR 4]),(gx,yx,kX,[⟨⟨4,0,[⟨1,false⟩,⟨1,true⟩]⟩,xa,xn,xc⟩])]) (by intro p hp;simp only[List.mem_cons,List.not_mem_nil,or_false]at hp ⊢;rcases hp with rfl|rfl<;>simp));have hk12:=R7.out.bks (gb,bx,kB,[newR 4]) (by simp);obtain⟨c0,c1,c2⟩:=hk12.1.cells;have HK:=Lib.hid hk12.2;clear hk12;go_wp2_with fail
 refine(g_r u.heap.size (some z) kM bx kB [newR 4] 1 _ (by exact R7.out.map) (by exact HK.out) (by decide)).mono ?_;rintro e w2 ⟨y12,py12,rfl,hn⟩;rw[k_p4]at hn ⊢;have R8:=Lib.hid (R7.out.keep hn);clear hn HK c0 c1 c2 R7;go_upto_region 13 with fail
 obtain⟨w3,hw3⟩:∃v,w2.alloc (.cells #[y12.ds.v,y12.os.v,y12.pl.v] 42)=v:=⟨_,rfl⟩;obtain⟨gy12,hgy⟩:∃v,w2.heap.size=v:=⟨_,rfl⟩;rw[hw3,hgy]at R8;rw[hw3];try rw[hgy]
 clear hw3 hgy w2;replace R8:=Lib.hid (R8.out.drop (L':=[(gb,bx,kB,[newR 4]),(gx,yx,kX,[⟨⟨4,0,[⟨1,false⟩,⟨1,true⟩]⟩,xa,xn,xc⟩])]) (by intro p hp;simp only[List.mem_cons,List.not_mem_nil,or_false]at hp ⊢;rcases hp with rfl|rfl<;>simp));have hk13:=R8.out.bks (gx,yx,kX,[⟨⟨4,0,[⟨1,false⟩,⟨1,true⟩]⟩,xa,xn,xc⟩]) (by simp);obtain⟨c0,c1,c2⟩:=hk13.1.cells;have HK:=Lib.hid hk13.2;clear hk13;go_wp2_with fail
 refine(e_d u.heap.size (some z) kM yx kX [⟨⟨4,0,[⟨1,false⟩,⟨1,true⟩]⟩,xa,xn,xc⟩] 4 9 _ (by exact R8.out.map) (by exact HK.out)).mono ?_;rintro e w2 ⟨y13,py13,rfl,hn⟩;rw[k_p5]at hn ⊢;have R9:=Lib.hid (R8.out.keep hn);clear hn HK c0 c1 c2 R8;go_upto_region 14 with fail
 obtain⟨w3,hw3⟩:∃v,w2.alloc (.cells #[y13.ds.v,y13.os.v,y13.pl.v] 42)=v:=⟨_,rfl⟩;obtain⟨gy13,hgy⟩:∃v,w2.heap.size=v:=⟨_,rfl⟩;rw[hw3,hgy]at R9;rw[hw3];try rw[hgy]
 clear hw3 hgy w2;replace R9:=Lib.hid (R9.out.drop (L':=[(gb,bx,kB,[newR 4]),(gx,yx,kX,[⟨⟨4,0,[⟨1,false⟩,⟨1,true⟩]⟩,xa,xn,xc⟩])]) (by intro p hp;simp only[List.mem_cons,List.not_mem_nil,or_false]at hp ⊢;rcases hp with rfl|rfl<;>simp));obtain⟨d0,d1,d2,d3,d4,d5⟩:=R9.out.drv.cells;have hk14:=R9.out.bks (gb,bx,kB,[newR 4]) (by simp);obtain⟨c0,c1,c2⟩:=hk14.1.cells;have HK:=Lib.hid hk14.2;clear hk14;go_wp2_with fail
 refine(j_l u.heap.size (some z) kM bx kB [newR 4] kD _ (by exact R9.out.map) (by exact HK.out)).mono ?_;rintro e w2 ⟨y14,py14,rfl,hn⟩;rw[k_p6]at hn ⊢;have R10:=Lib.hid (R9.out.keep hn);clear hn HK c0 c1 c2 d0 d1 d2 d3 d4 d5 R9;go_upto_region 15 with fail
 obtain⟨w3,hw3⟩:∃v,w2.alloc (.cells #[y14.ds.v,y14.os.v,y14.pl.v] 42)=v:=⟨_,rfl⟩;obtain⟨gy14,hgy⟩:∃v,w2.heap.size=v:=⟨_,rfl⟩;rw[hw3,hgy]at R10;rw[hw3];try rw[hgy]
 clear hw3 hgy w2;replace R10:=Lib.hid (R10.out.drop (L':=[(gb,bx,kB,[newR 4]),(gx,yx,kX,[⟨⟨4,0,[⟨1,false⟩,⟨1,true⟩]⟩,xa,xn,xc⟩])]) (by intro p hp;simp only[List.mem_cons,List.not_mem_nil,or_false]at hp ⊢;rcases hp with rfl|rfl<;>simp));have hk15:=R10.out.bks (gx,yx,kX,[⟨⟨4,0,[⟨1,false⟩,⟨1,true⟩]⟩,xa,xn,xc⟩]) (by simp);obtain⟨c0,c1,c2⟩:=hk15.1.cells;have HK:=Lib.hid hk15.2;clear hk15;go_wp2_with fail
 refine(e_X u.heap.size (some z) kM yx kX [⟨⟨4,0,[⟨1,false⟩,⟨1,true⟩]⟩,xa,xn,xc⟩] 4 1 _ (by exact R10.out.map) (by exact HK.out)).mono ?_;rintro e w2 ⟨ys,pys,rfl,hn⟩;rw[k_p7]at hn ⊢;have R11:=Lib.hid (R10.out.keep hn);clear hn HK c0 c1 c2 R10;go_upto_region 16 with fail
 obtain⟨w3,hw3⟩:∃v,w2.alloc (.cells #[ys.ds.v,ys.os.v,ys.pl.v] 42)=v:=⟨_,rfl⟩;obtain⟨gys,hgy⟩:∃v,w2.heap.size=v:=⟨_,rfl⟩;rw[hw3,hgy]at R11;rw[hw3];try rw[hgy]
 clear hw3 hgy w2;replace R11:=Lib.hid (R11.out.drop (L':=[(gb,bx,kB,[newR 4]),(gx,yx,kX,[⟨⟨4,0,[⟨1,false⟩,⟨1,true⟩]⟩,xa,xn,xc⟩]),(gys,ys,kS,pys)]) (by intro p hp;simp only[List.mem_cons,List.not_mem_nil,or_false]at hp ⊢;rcases hp with rfl|rfl|rfl<;>simp));have hk16:=R11.out.bks (gys,ys,kS,pys) (by simp);obtain⟨c0,c1,c2⟩:=hk16.1.cells;have HK:=Lib.hid hk16.2;clear hk16;go_wp2_with fail
 refine(g_r u.heap.size (some z) kM ys kS pys 1 _ (by exact R11.out.map) (by exact HK.out) (by decide)).mono ?_;rintro e w2 ⟨y16,py16,rfl,hn⟩;rw[k_p8]at hn ⊢;have R12:=Lib.hid (R11.out.keep hn);clear hn HK c0 c1 c2 R11;go_upto_region 17 with fail
 obtain⟨w3,hw3⟩:∃v,w2.alloc (.cells #[y16.ds.v,y16.os.v,y16.pl.v] 42)=v:=⟨_,rfl⟩;obtain⟨gy16,hgy⟩:∃v,w2.heap.size=v:=⟨_,rfl⟩;rw[hw3,hgy]at R12;rw[hw3];try rw[hgy]
 clear hw3 hgy w2;replace R12:=Lib.hid (R12.out.drop (L':=[(gb,bx,kB,[newR 4]),(gx,yx,kX,[⟨⟨4,0,[⟨1,false⟩,⟨1,true⟩]⟩,xa,xn,xc⟩])]) (by intro p hp;simp only[List.mem_cons,List.not_mem_nil,or_false]at hp ⊢;rcases hp with rfl|rfl<;>simp));have hk17:=R12.out.bks (gx,yx,kX,[⟨⟨4,0,[⟨1,false⟩,⟨1,true⟩]⟩,xa,xn,xc⟩]) (by simp);obtain⟨c0,c1,c2⟩:=hk17.1.cells;have HK:=Lib.hid hk17.2;clear hk17;go_wp2_with fail
 refine(e_X u.heap.size (some z) kM yx kX [⟨⟨4,0,[⟨1,false⟩,⟨1,true⟩]⟩,xa,xn,xc⟩] 4 3 _ (by exact R12.out.map) (by exact HK.out)).mono ?_;rintro e w2 ⟨y17,py17,rfl,hn⟩;rw[k_p9]at hn ⊢;have R13:=Lib.hid (R12.out.keep hn);clear hn HK c0 c1 c2 R12;go_upto_region 18 with fail
 obtain⟨w3,hw3⟩:∃v,w2.alloc (.cells #[y17.ds.v,y17.os.v,y17.pl.v] 42)=v:=⟨_,rfl⟩;obtain⟨gy17,hgy⟩:∃v,w2.heap.size=v:=⟨_,rfl⟩;rw[hw3,hgy]at R13;rw[hw3];try rw[hgy]
 clear hw3 hgy w2;replace R13:=Lib.hid (R13.out.drop (L':=[(gb,bx,kB,[newR 4]),(gx,yx,kX,[⟨⟨4,0,[⟨1,false⟩,⟨1,true⟩]⟩,xa,xn,xc⟩])]) (by intro p hp;simp only[List.mem_cons,List.not_mem_nil,or_false]at hp ⊢;rcases hp with rfl|rfl<;>simp));have hk18:=R13.out.bks (gb,bx,kB,[newR 4]) (by simp);obtain⟨c0,c1,c2⟩:=hk18.1.cells;have HK:=Lib.hid hk18.2;clear hk18;go_wp2_with fail
 refine(e_d u.heap.size (some z) kM bx kB [newR 4] 4 9 _ (by exact R13.out.map) (by exact HK.out)).mono ?_;rintro e w2 ⟨yr,pyr,rfl,hn⟩;rw[t_M]at hn ⊢;have R14:=Lib.hid (R13.out.keep hn);clear hn HK c0 c1 c2 R13;go_upto_region 19 with fail
 obtain⟨w3,hw3⟩:∃v,w2.alloc (.cells #[yr.ds.v,yr.os.v,yr.pl.v] 42)=v:=⟨_,rfl⟩;obtain⟨gyr,hgy⟩:∃v,w2.heap.size=v:=⟨_,rfl⟩;rw[hw3,hgy]at R14;rw[hw3];try rw[hgy]
 clear hw3 hgy w2;replace R14:=Lib.hid (R14.out.drop (L':=[(gb,bx,kB,[newR 4]),(gyr,yr,kR,pyr)]) (by intro p hp;simp only[List.mem_cons,List.not_mem_nil,or_false]at hp ⊢;rcases hp with rfl|rfl<;>simp));obtain⟨o0,o1,o2,o3,o4,o5,o6,o7,o8,o9⟩:=R14.out.ord.cells;have hk19:=R14.out.bks (gyr,yr,kR,pyr) (by simp);obtain⟨c0,c1,c2⟩:=hk19.1.cells;have HK:=Lib.hid hk19.2;clear hk19;go_wp2_with fail
 refine(c_2 u.heap.size (some z) kM yr kR pyr kO 9 _ (by exact R14.out.map) (by exact HK.out)).mono ?_;rintro e w2 ⟨y19,py19,rfl,hn⟩;rw[t_L]at hn ⊢;have R15:=Lib.hid (R14.out.keep hn);clear hn HK c0 c1 c2 o0 o1 o2 o3 o4 o5 o6 o7 o8 o9 R14;go_upto_region 20 with fail
 obtain⟨w3,hw3⟩:∃v,w2.alloc (.cells #[y19.ds.v,y19.os.v,y19.pl.v] 42)=v:=⟨_,rfl⟩;obtain⟨gy19,hgy⟩:∃v,w2.heap.size=v:=⟨_,rfl⟩;rw[hw3,hgy]at R15;rw[hw3];try rw[hgy]
 clear hw3 hgy w2;replace R15:=Lib.hid (R15.out.drop (L':=[(gb,bx,kB,[newR 4])]) (by intro p hp;simp only[List.mem_cons,List.not_mem_nil,or_false]at hp ⊢;subst hp;simp));go_wp2_with fail
 go_ret;exact⟨by first|rfl|(simp;done),R15.out.old⟩
end Pln
end Go.Proofs.YtkpnmpjnpcjohaaGreat
