import Derived.Test.YtkpnmpjnpcjohaaGreatJoined12
import Derived.Test.YtkpnmpjnpcjohaaGreatPlanPSmalls
set_option linter.unusedVariables false
set_option maxHeartbeats 1000000
set_option maxRecDepth 100000
namespace Go.Proofs.YtkpnmpjnpcjohaaGreat
open ChangeShapes WideShapes ChangeAt RowKit Mem
namespace Rec
open FleetMath
theorem m_T{xs ys:List Stp}{k:Nat}{u:Stp}(h:xs.take k=ys.take k)(hx:xs[k]?=some u)(hy:ys[k]?=some u):xs.take (k+1)=ys.take (k+1):=by
 rw[List.take_add_one,List.take_add_one,h,hx,hy]
theorem o_Z{xs ys:List Stp}{k:Nat}{u v:Stp}(h:u≠v)(hx:xs[k]?=some u)(hy:ys[k]?=some v):decide (xs=ys)=false:=by
 rw[decide_eq_false_iff_not];rintro rfl;rw[hx]at hy;exact h (Option.some.inj hy)
theorem k_D(A A':Option Addr)(n c n' c':Nat)(xs ys:List Stp)(B B':Nat)(w:World)(h:Stps w B A n xs)(h':Stps w B' A' n' ys):
 Calls Tryz.prog 13 #[.slice A n c,.slice A' n' c'] w (d_t w (.bool (decide (xs=ys)))):=by
 have hm:=Recs.le h;have H:=Lib.hid h;have H':=Lib.hid h';have HL:=Lib.hid (Stps.length h);have HL':=Lib.hid (Stps.length h');clear h h';by_cases hn:n=n'
 ·subst hn
  go_enter Tryz.func13,Tryz.ntmps13;go_wp2
  go_loopw [5] (fun i wr=>∃(k d:Nat),k≤n∧i=.int .i64 k∧wr=w.drewN d∧Hid (xs.take k=ys.take k)) (fun i _=>n-(intOf i).toNat)
  case atStart=>exact⟨0,0,Nat.zero_le _,rfl,rfl,rfl⟩
  case round=>
   obtain⟨k,d,hk,rfl,rfl,HT⟩:=hrel;by_cases hlt:k<n
   ·obtain⟨b,off,x,rfl,_,hx,_,c0,c1⟩:=Stps.at_ H.out hlt
    obtain⟨b',off',y,rfl,_,hy,_,d0,d1⟩:=Stps.at_ H'.out hlt;have HU:=Lib.hid hx;have HV:=Lib.hid hy;clear hx hy;by_cases h1:x.ord=y.ord
    ·by_cases h2:x.drop=y.drop
     ·have hxy:x=y:=by cases x;cases y;simp only at h1 h2;subst h1;subst h2;rfl
      subst hxy;have HN:Hid (xs.take (k+1)=ys.take (k+1)):=m_T HT.out HU.out HV.out;clear h1 h2;go_wp2
      go_quiet (fail)
      go_wp2
      go_roundw
      case rel=>exact⟨k+1,_,by omega,by go_num,rfl,HN⟩
      case measure=>simp[intOf];omega
     ·have HN:Hid (decide (xs=ys)=false):=o_Z (fun e=>h2 (by rw[e])) HU.out HV.out
      have z2:(x.drop==y.drop)=false:=by simpa using h2
      rw[← h1]at d0;clear h1 h2;go_wp2
      go_quiet (fail)
      go_wp2
      go_ret;exact⟨a_j HN.out.symm,_,World.drewN_drewN _ _ _⟩
    ·have HN:Hid (decide (xs=ys)=false):=o_Z (fun e=>h1 (by rw[e])) HU.out HV.out
     have z1:(x.ord==y.ord)=false:=by simpa using h1
     clear h1;go_wp2
     go_quiet (fail)
     go_wp2
     go_ret;exact⟨a_j HN.out.symm,_,World.drewN_drewN _ _ _⟩
   ·have HN:Hid (decide (xs=ys)=true):=by
     have:=HT.out;rw[List.take_of_length_le (by have:=HL.out;omega),List.take_of_length_le (by have:=HL'.out;omega)]at this;simp[this,Hid]
    go_wp2
    go_ret;exact⟨a_j HN.out.symm,_,rfl⟩
 ·have HN:Hid (decide (xs=ys)=false):=by
   have h1:=HL.out;have h2:=HL'.out;simp only[Hid,decide_eq_false_iff_not];rintro rfl;omega
  have hne2:((n:Int)==(n':Int))=false:=by simp;omega
  have hne3:((n:Int) != (n':Int))=true:=by simp;omega
  clear hn;go_enter Tryz.func13,Tryz.ntmps13;go_wp2
  go_ret;exact⟨a_j HN.out.symm,0,rfl⟩
end Rec
namespace Geo
open MemI GeoMath
theorem i_U(b n x v y:Nat)(g c:Nat)(l:List Int)(w:World)(z0:w.cell? ⟨b,0,none⟩=some (.int .i64 n))(z1:w.cell? ⟨b,1,none⟩=some (.slice (some ⟨g,0,none⟩) (n*n) c))
 (hn:n≤12) (hi:Ints w w.heap.size (some ⟨g,0,none⟩) (n*n) l) (hm:IsMap n l) (hx:x<n) (hv:v<n) (hy:y<n):
 Calls Tryz.prog 140 #[.pointer (some ⟨b,0,none⟩),.int .i64 x,.int .i64 v,.int .i64 y] w (d_t w (.int .i64 (T n l x v+T n l v y))):=by
 have HI:=Lib.hid hi;have l3:=hm.T_lo hx hv;have l4:=hm.T_hi hx hv;have l5:=hm.T_lo hv hy;have l6:=hm.T_hi hv hy;clear hi hm;obtain⟨c2,_⟩:=Ints.T_at0 HI.out hx hv;obtain⟨c3,_⟩:=Ints.T_at0 HI.out hv hy;obtain⟨q,j,g1,g2,g3,g4,g0,g6,g7⟩:=d_r hn hx hv;obtain⟨r,k,h1,h2,h3,h4,h0,h6,h7⟩:=d_r hn hv hy;rw[← g7]at c2;rw[← h7]at c3;obtain⟨t2,ht2⟩:∃t,T n l x v=t:=⟨_,rfl⟩;obtain⟨t3,ht3⟩:∃t,T n l v y=t:=⟨_,rfl⟩;rw[ht2]at l3 l4 c2 ⊢;rw[ht3]at l5 l6 c3 ⊢;have G1:=Lib.hid g1;have G2:=Lib.hid g2;have H1:=Lib.hid h1;have H2:=Lib.hid h2;clear ht2 ht3 g7 h7 g1 g2 h1 h2 HI;have Z0:Hid (∀ d,(w.drewN d).cell? ⟨b,0,none⟩=some (.int .i64 n)):=fun _=>z0;have hs:IntKind.i64.wrap (t2+t3)=t2+t3:=IntWalk.i64_in _ (by omega);go_enter Tryz.func140,Tryz.ntmps140;go_wp2
 go_quiet (first|(go_at_call 139;with_reducible exact k_n (q_T b n x v q j _ (Z0.out _) G1.out G2.out g3 g4))|(go_at_call 139;with_reducible exact k_n (q_T b n v y r k _ (Z0.out _) H1.out H2.out h3 h4)))
 go_wp2
 go_ret;exact⟨rfl,_,rfl⟩
theorem m_U(base b n:Nat)(l:List Int)(w:World)(h:MapAt w 92 base b n l)(hn:n≤12)(hn1:1≤n):
 Calls Tryz.prog 78 #[.pointer (some ⟨b,0,none⟩)] w (s_E w 3 (n*n) (b_l l)):=by
 obtain⟨g0,cp,hb,hi,hcap⟩:=h.open_;have z1:=hb.cell (i:=1) rfl;have HI:=Lib.hid hi
 have hsq:n*n≤144:=by
  have:n*n≤12*12:=Nat.mul_le_mul hn hn;omega
 have hsq0:0<n*n:=Nat.mul_pos hn1 hn1;clear h hb hi;go_enter Tryz.func78,Tryz.ntmps78;go_wp2_with (go_at_call 37;refine(h_j _ _ _ l _ HI.out hsq0 hsq).mono ?_;rintro e w1 ⟨v,rfl,HB1,HV⟩)
 go_ret;exact⟨v,rfl,HB1,HV⟩
end Geo
namespace Route
open GeoMath FleetMath Rec Geo Span Deal
theorem h_s{o:Option Int}{w w':World}{v:Value}(h:v=optV o)(hb:Below w.heap.size w w'):a_y w (optV o) (.returned v) w':=⟨by rw[h],hb⟩
end Route
namespace Plan
open FleetMath PlanMath Rec
def d_T:Option Spt→Value
 |none=>.tuple #[.agg #[.int .i64 0,.int .i64 0,.int .i64 0,.int .i64 0],.bool false]
 |some s=>.tuple #[.agg #[.int .i64 s.drv,.int .i64 s.pick,.int .i64 s.drop,.int .i64 0],.bool true]
def FB(w:World)(wr:World):Prop:=Below w.heap.size w wr∧Blk wr w.heap.size 150 [.int .i64 0,.int .i64 0,.int .i64 0,.int .i64 0]
theorem FB.below{w wr w1:World}(h:FB w wr)(hb:Below wr.heap.size wr w1):FB w w1:=⟨h.1.trans (hb.mono h.1.size),h.2.below hb h.2.lt⟩
theorem f_1{w w':World}{s t:Option Spt}{v:Value}(h:s=t)(hv:v=d_T s)(hb:Below w.heap.size w w'):.returned v=Ending.returned (d_T t)∧Below w.heap.size w w':=⟨by rw[hv,h],hb⟩
theorem h_t(A:Option Addr)(n c:Nat)(l:List Stp)(o:Int)(f:Bool)(v:Int)(w:World)(hl:Stps w w.heap.size A n l)(hv:idxS l ⟨o,f⟩=v):
 Calls Tryz.prog 162 #[.slice A n c,.agg #[.int .i64 o,.bool f]] w (fun e w'=>e=.returned (.int .i64 v)∧Below w.heap.size w w'):=by
 rw[← hv];exact pindex_any A n c l ⟨o,f⟩ w hl
theorem d_N(A:Option Addr)(n c:Nat)(l:List RM)(o:Int)(w:World)(hl:Plns w w.heap.size A n l):
 Calls Tryz.prog 97 #[.slice A n c,.int .i64 o] w (fun e w'=>e=.returned (d_T (b_b (l.map (·.rt)) o))∧Below w.heap.size w w'):=by
 have hm:=Recs.le hl.rows;have HL:=Lib.hid hl.length;have HI:=Lib.hid hl;clear hl;go_enter Tryz.func97,Tryz.ntmps97;go_wp2
 go_loopw [12] (fun i wr=>∃(k:Nat),k≤n∧i=.int .i64 k∧Hid (FB w wr)∧Hid (b_b ((l.drop k).map (·.rt)) o=b_b (l.map (·.rt)) o)) (fun i _=>n-(intOf i).toNat)
 case atStart=>exact⟨0,Nat.zero_le _,rfl,Lib.hid ⟨(Below.refl _ _).alloc (Nat.le_refl _) _,Blk.new _ _ _⟩,Lib.hid rfl⟩
 case round=>
  obtain⟨k,hk,rfl,HB,HK⟩:=hrel;by_cases hlt:k<n
  ·have HI1:Hid (Plns wr w.heap.size A n l):=HI.out.keep HB.out.1
   obtain⟨b,off,x,rfl,hbb,hx,hdr,c0,c1,c2,hst,hxc⟩:=HI1.out.at_ hlt;have HS:=Lib.hid hst;have HK1:=HK.out;rw[hdr,List.map_cons,e_V]at HK1;obtain⟨va,hva⟩:∃v,idxS x.rt.stops ⟨o,false⟩=v:=⟨_,rfl⟩;obtain⟨vb,hvb⟩:∃v,idxS x.rt.stops ⟨o,true⟩=v:=⟨_,rfl⟩;rw[hva,hvb]at HK1;have HA:=Lib.hid hva;have HV:=Lib.hid hvb;have HKK:=Lib.hid HK1;have HB0:Hid (Below wr.heap.size wr (wr.alloc (.cells #[.int .i64 x.rt.drv,.int .i64 x.rt.served,.slice x.a x.n x.c] 37))):=(Below.refl _ _).alloc (Nat.le_refl _) _;have HQ:Hid (Blk (wr.alloc (.cells #[.int .i64 x.rt.drv,.int .i64 x.rt.served,.slice x.a x.n x.c] 37)) wr.heap.size 37 [.int .i64 x.rt.drv,.int .i64 x.rt.served,.slice x.a x.n x.c]):=Blk.new _ _ _;have HB1:Hid (FB w (wr.alloc (.cells #[.int .i64 x.rt.drv,.int .i64 x.rt.served,.slice x.a x.n x.c] 37))):=HB.out.below HB0.out;have HS1:Hid (Stps (wr.alloc (.cells #[.int .i64 x.rt.drv,.int .i64 x.rt.served,.slice x.a x.n x.c] 37)) w.heap.size x.a x.n x.rt.stops):=Recs.keep HS.out (HB0.out.mono HB.out.1.size);clear hx hdr hva hvb HK1 HK hst;go_wp2_with fail
   refine(h_t _ _ _ _ _ _ va _ (by exact Recs.more HS1.out HB1.out.1.size) HA.out).mono ?_;rintro e w1 ⟨rfl,hb1⟩;have HB3:Hid (FB w w1):=HB1.out.below hb1;have HS3:Hid (Stps w1 w.heap.size x.a x.n x.rt.stops):=Recs.keep HS1.out (hb1.mono HB1.out.1.size);have HQ1:=Lib.hid (HQ.out.below hb1 HQ.out.lt);have d2:=HQ1.out.cell (i:=2) rfl;clear hb1 c0 c1 c2 HB HS HI1 HB1 HS1 HQ HB0;go_wp2_with fail
   refine(h_t _ _ _ _ _ _ vb _ (by exact Recs.more HS3.out HB3.out.1.size) HV.out).mono ?_;rintro e w2 ⟨rfl,hb2⟩;have HB2:Hid (FB w w2):=HB3.out.below hb2;have HQ2:=Lib.hid (HQ1.out.below hb2 HQ1.out.lt);have q0:=HQ2.out.cell (i:=0) rfl;have m0:=HB2.out.2.cell (i:=0) rfl;have m1:=HB2.out.2.cell (i:=1) rfl;have m2:=HB2.out.2.cell (i:=2) rfl;have m3:=HB2.out.2.cell (i:=3) rfl;have f0:=HB2.out.2.free 0;have f1:=HB2.out.2.free 1;have f2:=HB2.out.2.free 2;have f3:=HB2.out.2.free 3;clear hb2 d2 HB3 HS3 HQ1 HA HV;by_cases h1:0≤va
   ·have HF:Hid (some ⟨x.rt.drv,va,vb⟩=b_b (l.map (·.rt)) o):=by
     have:=HKK.out;rw[if_pos (.inl h1)]at this;exact this
    clear HKK;go_wp2
    (try simp only[Exit.inBlock,Exit.then])
    refine bodyPost_ret (v:=d_T (some ⟨x.rt.drv,va,vb⟩)) ?_ rfl (f_1 HF.out rfl ?_)
    ·rw[results_cell_tmp rfl];go_simp;rfl
    ·exact(((HB2.out.1.setCell (Nat.le_refl _) _).setCell (Nat.le_refl _) _).setCell (Nat.le_refl _) _).setCell (Nat.le_refl _) _
   ·by_cases h2:0≤vb
    ·have HF:Hid (some ⟨x.rt.drv,va,vb⟩=b_b (l.map (·.rt)) o):=by
      have:=HKK.out;rw[if_pos (.inr h2)]at this;exact this
     clear HKK;go_wp2
     (try simp only[Exit.inBlock,Exit.then])
     refine bodyPost_ret (v:=d_T (some ⟨x.rt.drv,va,vb⟩)) ?_ rfl (f_1 HF.out rfl ?_)
     ·rw[results_cell_tmp rfl];go_simp;rfl
     ·exact(((HB2.out.1.setCell (Nat.le_refl _) _).setCell (Nat.le_refl _) _).setCell (Nat.le_refl _) _).setCell (Nat.le_refl _) _
    ·have HN:Hid (b_b ((l.drop (k+1)).map (·.rt)) o=b_b (l.map (·.rt)) o):=by
      have:=HKK.out;rw[if_neg (by intro h;rcases h with h|h;exact h1 h;exact h2 h)]at this;exact this
     clear HKK;go_wp2
     go_roundw
     case rel=>exact⟨k+1,by omega,by go_num,HB2,HN⟩
     case measure=>simp[intOf];omega
  ·have HF:Hid (none=b_b (l.map (·.rt)) o):=by
    have:=HK.out;rw[List.drop_of_length_le (by have:=HL.out;omega)]at this;exact this
   clear HK;have m0:=HB.out.2.cell (i:=0) rfl;have m1:=HB.out.2.cell (i:=1) rfl;have m2:=HB.out.2.cell (i:=2) rfl;have m3:=HB.out.2.cell (i:=3) rfl;have f0:=HB.out.2.free 0;have f1:=HB.out.2.free 1;have f2:=HB.out.2.free 2;have f3:=HB.out.2.free 3;go_wp2
   (try simp only[Exit.inBlock,Exit.then])
   refine bodyPost_ret (v:=d_T none) ?_ rfl (f_1 HF.out rfl ?_)
   ·rw[results_cell_tmp rfl];go_simp;rfl
   ·exact(((HB.out.1.setCell (Nat.le_refl _) _).setCell (Nat.le_refl _) _).setCell (Nat.le_refl _) _).setCell (Nat.le_refl _) _
end Plan
end Go.Proofs.YtkpnmpjnpcjohaaGreat
