import Derived.Test.YtkpnmpjnpcjohaaGreatPlnrAs
import Derived.Test.YtkpnmpjnpcjohaaGreatAuditProgs
set_option linter.unusedSimpArgs false
set_option linter.unusedVariables false
set_option maxHeartbeats 8000000
set_option maxRecDepth 100000
namespace Go.Proofs.YtkpnmpjnpcjohaaGreat
open ChangeShapes WideShapes ChangeAt RowKit Mem GeoMath FleetMath PlanMath CertMath AuditMath InsertMath RepairMath PlannerMath Rec Geo Span Deal Keep Plan Cert Audit
namespace Pln
def cmpI(a b:Int):Int:=if a<b then -1 else if b<a then 1 else 0
theorem h_v(a:Int)(w:World):Calls Tryz.prog 95 #[.int .i64 a] w fun e w'=>e=.returned (.bool false)∧w=w':=by
 have e1:(a != a)=false:=by simp
 go_enter Tryz.func95,Tryz.ntmps95;go_wp2
 go_ret;exact⟨by first|rfl|simp,rfl⟩
theorem d_z(a b c:Int)(w:World)(h:cmpI a b=c):Calls Tryz.prog 46 #[.int .i64 a,.int .i64 b] w fun e w'=>e=.returned (.int .i64 c)∧w=w':=by
 have H:=Lib.hid h;clear h;go_enter Tryz.func46,Tryz.ntmps46;go_wp2_with fail
 refine(h_v a _).mono ?_;rintro e w1 ⟨rfl,rfl⟩;go_wp2_with fail
 refine(h_v b _).mono ?_;rintro e w2 ⟨rfl,rfl⟩;by_cases h1:a<b
 ·have HF:Hid (-1=c):=by show _=_;rw[← H.out];unfold cmpI;rw[if_pos h1]
  go_wp2_with fail
  go_ret;exact⟨a_5 HF.out,rfl⟩
 ·by_cases h2:b<a
  ·have HF:Hid (1=c):=by show _=_;rw[← H.out];unfold cmpI;rw[if_neg h1,if_pos h2]
   go_wp2_with fail
   go_ret;exact⟨a_5 HF.out,rfl⟩
  ·have HF:Hid (0=c):=by show _=_;rw[← H.out];unfold cmpI;rw[if_neg h1,if_neg h2]
   go_wp2_with fail
   go_ret;exact⟨a_5 HF.out,rfl⟩
theorem d_A(b:Int)(w:World):Calls Tryz.prog 38 #[.int .i64 b] w fun e w'=>e=.returned (.bool (decide (0≤b∧b≤100000)))∧w=w':=by
 go_enter Tryz.func38,Tryz.ntmps38;by_cases h1:0≤b
 ·by_cases h2:b≤100000
  all_goals
   go_wp2
   go_ret;exact⟨a_j (by simp[h1,h2]),rfl⟩
 ·go_wp2
  go_ret;exact⟨a_j (by first|(simp[h1];done)|(simp;omega)),rfl⟩
theorem k_Y(x:RM)(d:Drv)(b:Bool)(w:World)(hb:decide (x.rt.drv=d.id)=b):Calls Tryz.prog 43 #[rteV x,drvV d] w (a_y w (.bool b)):=by
 have HB:Hid (Below w.heap.size w ((w.alloc (.cells #[.int .i64 x.rt.drv,.int .i64 x.rt.served,.slice x.a x.n x.c] 37)).alloc (.cells #[.int .i64 d.id,.int .i64 d.room,.int .i64 d.home,.int .i64 d.win.fr,.int .i64 d.win.to,.bool d.retired] 33))):=((Below.refl _ _).alloc (Nat.le_refl _) _).alloc (by simp) _;have e1:(x.rt.drv==d.id)=b:=by rw[← hb];rfl
 clear hb;go_enter Tryz.func43,Tryz.ntmps43;go_wp2
 go_ret;exact⟨by first|rfl|simp[e1],HB.out⟩
theorem k_Z(x y:FleetMath.Ord)(c:Int)(w:World)(hc:cmpI x.id y.id=c):Calls Tryz.prog 45 #[ordV x,ordV y] w (a_y w (.int .i64 c)):=by
 have HB:Hid (Below w.heap.size w ((w.alloc (.cells #[.int .i64 x.id,.int .i64 x.size,.int .i64 x.pick.place,.int .i64 x.pick.win.fr,.int .i64 x.pick.win.to,.int .i64 x.pick.serv,.int .i64 x.drop.place,.int .i64 x.drop.win.fr,.int .i64 x.drop.win.to,.int .i64 x.drop.serv] 31)).alloc (.cells #[.int .i64 y.id,.int .i64 y.size,.int .i64 y.pick.place,.int .i64 y.pick.win.fr,.int .i64 y.pick.win.to,.int .i64 y.pick.serv,.int .i64 y.drop.place,.int .i64 y.drop.win.fr,.int .i64 y.drop.win.to,.int .i64 y.drop.serv] 31))):=((Below.refl _ _).alloc (Nat.le_refl _) _).alloc (by simp) _;have HC:=Lib.hid hc;clear hc;go_enter Tryz.func45,Tryz.ntmps45;go_wp2_with fail
 refine(d_z _ _ c _ HC.out).mono ?_;rintro e w1 ⟨rfl,rfl⟩;go_wp2_with fail
 go_ret;exact⟨rfl,HB.out⟩
theorem e_c(d:Drv)(i c:Int)(w:World)(hc:cmpI d.id i=c):Calls Tryz.prog 99 #[drvV d,.int .i64 i] w (a_y w (.int .i64 c)):=by
 have HB:Hid (Below w.heap.size w (w.alloc (.cells #[.int .i64 d.id,.int .i64 d.room,.int .i64 d.home,.int .i64 d.win.fr,.int .i64 d.win.to,.bool d.retired] 33))):=(Below.refl _ _).alloc (Nat.le_refl _) _;have HC:=Lib.hid hc;clear hc;go_enter Tryz.func99,Tryz.ntmps99;go_wp2_with fail
 refine(d_z _ _ c _ HC.out).mono ?_;rintro e w1 ⟨rfl,rfl⟩;go_wp2_with fail
 go_ret;exact⟨rfl,HB.out⟩
theorem d_B(x:FleetMath.Ord)(i c:Int)(w:World)(hc:cmpI x.id i=c):Calls Tryz.prog 90 #[ordV x,.int .i64 i] w (a_y w (.int .i64 c)):=by
 have HB:Hid (Below w.heap.size w (w.alloc (.cells #[.int .i64 x.id,.int .i64 x.size,.int .i64 x.pick.place,.int .i64 x.pick.win.fr,.int .i64 x.pick.win.to,.int .i64 x.pick.serv,.int .i64 x.drop.place,.int .i64 x.drop.win.fr,.int .i64 x.drop.win.to,.int .i64 x.drop.serv] 31))):=(Below.refl _ _).alloc (Nat.le_refl _) _;have HC:=Lib.hid hc;clear hc;go_enter Tryz.func90,Tryz.ntmps90;go_wp2_with fail
 refine(d_z _ _ c _ HC.out).mono ?_;rintro e w1 ⟨rfl,rfl⟩;go_wp2_with fail
 go_ret;exact⟨rfl,HB.out⟩
theorem s_O{α β:Type}{f:α→Int}{g:β→Int}{l:List α}{m:List β}{k:Nat}{x:α}{y:β}(h:(l.take k).map f=(m.take k).map g)(hx:l[k]?=some x)(hy:m[k]?=some y)(e:f x=g y):(l.take (k+1)).map f=(m.take (k+1)).map g:=by
 rw[List.take_add_one,List.take_add_one,hx,hy,List.map_append,List.map_append,h];simp[e]
theorem t_v{α β:Type}{f:α→Int}{g:β→Int}{l:List α}{m:List β}{k:Nat}{x:α}{y:β}(hx:l[k]?=some x)(hy:m[k]?=some y)(e:f x≠g y):l.map f≠m.map g:=by
 intro h;have h1:(l.map f)[k]?=some (f x):=by rw[List.getElem?_map,hx];rfl
 rw[h,List.getElem?_map,hy]at h1;injection h1 with h1;exact e h1.symm
theorem t_w{α β:Type}{f:α→Int}{g:β→Int}{l:List α}{m:List β}{k:Nat}(h:(l.take k).map f=(m.take k).map g)(h1:l.length≤k)(h2:m.length≤k):l.map f=m.map g:=by
 rw[List.take_of_length_le h1,List.take_of_length_le h2]at h;exact h
theorem k_0(A:Option Addr)(n c:Nat)(l:List RM)(A3:Option Addr)(n3 c3:Nat)(ds:List Drv)(b:Bool)(w:World)(hl:Plns w w.heap.size A n l)(hd:Drvs w w.heap.size A3 n3 ds)(hb:decide (l.map (·.rt.drv)=ds.map (·.id))=b):
 Calls Tryz.prog 42 #[.slice A n c,.slice A3 n3 c3,.func (.func 43) #[] #[]] w (a_y w (.bool b)):=by
 have hm:=Recs.le hl.rows;have hm3:=Recs.le hd;have HV:=Lib.hid hl;have HD:=Lib.hid hd;have HL:=Lib.hid hl.length;have HL3:=Lib.hid hd.length;have HB:=Lib.hid hb;clear hl hd hb;go_enter Tryz.func42,Tryz.ntmps42;by_cases hlen:n=n3
 case neg=>
  have HF:Hid (false=b):=by
   show _=_;rw[← HB.out,decide_eq_false (fun e=>hlen (by have:=congrArg List.length e;rw[List.length_map,List.length_map,HL.out,HL3.out]at this;exact this))]
  have e1:((n:Int) != (n3:Int))=true:=by simp only[bne_iff_ne,ne_eq];omega
  clear hlen;go_wp2_with fail
  go_ret;exact⟨a_j HF.out,Below.refl _ _⟩
 subst hlen;go_wp2_with fail
 go_loopw [17] (fun i wr=>∃k:Nat,k≤n∧i=.int .i64 k∧Hid (Below w.heap.size w wr)∧Hid ((l.take k).map (·.rt.drv)=(ds.take k).map (·.id))) (fun i _=>n-(intOf i).toNat)
 case atStart=>exact⟨0,Nat.zero_le _,rfl,Below.refl _ _,Lib.hid rfl⟩
 case round=>
  obtain⟨k,hk,rfl,HBW,HK⟩:=hrel;by_cases hlt:k<n
  ·obtain⟨b1,off1,x,rfl,hbb1,hx,_,c0,c1,c2,_,_⟩:=(HV.out.keep HBW.out).at_ hlt
   obtain⟨b2,off2,d,rfl,hbb2,hd,_,d0,d1,d2,d3,d4,d5⟩:=Drvs.at_ (Recs.keep HD.out HBW.out) hlt;have HX:=Lib.hid hx;have HDX:=Lib.hid hd;obtain⟨t,ht⟩:∃t,decide (x.rt.drv=d.id)=t:=⟨_,rfl⟩;have HT:=Lib.hid ht;have HBX:Hid (Below w.heap.size w ((wr.alloc (.cells #[.int .i64 x.rt.drv,.int .i64 x.rt.served,.slice x.a x.n x.c] 37)).alloc (.cells #[.int .i64 d.id,.int .i64 d.room,.int .i64 d.home,.int .i64 d.win.fr,.int .i64 d.win.to,.bool d.retired] 33))):=(HBW.out.alloc HBW.out.size _).alloc (HBW.out.alloc HBW.out.size (.cells #[.int .i64 x.rt.drv,.int .i64 x.rt.served,.slice x.a x.n x.c] 37)).size _;have HBY:Hid (Below wr.heap.size wr (wr.alloc (.cells #[.int .i64 x.rt.drv,.int .i64 x.rt.served,.slice x.a x.n x.c] 37))):=(Below.refl _ _).alloc (Nat.le_refl _) _;have HS2:=Recs.keep HD.out (HBW.out.trans (HBY.out.mono HBW.out.size));obtain⟨b3,off3,s3,hA3,_,hs3,_,g0,g1,g2,g3,g4,g5⟩:=Drvs.at_ HS2 hlt;injection hA3 with hA3;injection hA3 with hA3 hA4;subst hA3;subst hA4;rw[hd]at hs3;injection hs3 with hs3;subst hs3;clear hx hd ht HS2;go_wp2_with fail
   refine(k_Y x d t _ HT.out).mono ?_;rintro e w' ⟨rfl,hb2⟩;have HB2:=Lib.hid (HBX.out.trans (hb2.mono HBX.out.size));clear hb2 HBX HBY c0 c1 c2 d0 d1 d2 d3 d4 d5 g0 g1 g2 g3 g4 g5;cases t with
   |true=>
    have HN:=Lib.hid (s_O HK.out HX.out HDX.out (of_decide_eq_true HT.out));clear HK;go_wp2_with fail
    go_roundw
    case rel=>exact⟨k+1,by omega,by go_num,HB2,HN⟩
    case measure=>simp[intOf];omega
   |false=>
    have HF:Hid (false=b):=by
     show _=_;rw[← HB.out,decide_eq_false (t_v HX.out HDX.out (of_decide_eq_false HT.out))]
    clear HK;go_wp2_with fail
    go_ret;exact⟨a_j HF.out,HB2.out⟩
  ·have HF:Hid (true=b):=by
    show _=_;rw[← HB.out,decide_eq_true (t_w HK.out (by have:=HL.out;omega) (by have:=HL3.out;omega))]
   clear HK;go_wp2_with fail
   go_ret;exact⟨a_j HF.out,HBW.out⟩
theorem s_P{l:List Drv}{i:Int}{k:Nat}(hk:k≤l.length)(h1:∀t x,t<k→l[t]?=some x→x.id<i)(h2:∀t x,k≤t→l[t]?=some x→i≤x.id):atD l i=k:=s_d (f:=fun x:Drv=>x.id) hk h1 fun x hx=>Int.not_lt.2 (h2 k x (Nat.le_refl _) hx)
theorem l_U{l:List Drv}(h:AscD l){s t:Nat}{x y:Drv}(hs:l[s]?=some x)(ht:l[t]?=some y)(hst:s≤t):x.id≤y.id:=by
 rcases Nat.lt_or_ge s t with h1|h1
 ·obtain⟨h2,h3⟩:=List.getElem?_eq_some_iff.1 hs
  obtain⟨h4,h5⟩:=List.getElem?_eq_some_iff.1 ht;have:=List.pairwise_iff_getElem.1 h _ _ h2 h4 h1;rw[h3,h5]at this;omega
 ·have e:s=t:=by omega
  subst e;rw[hs]at ht;injection ht with ht;rw[ht];exact Int.le_refl _
theorem j_h{l:List Drv}{i:Int}(h:AscD l){k:Nat}(hk:atD l i=k){b:Bool}(hb:(match l[k]? with|some x=>decide (x.id=i)|none=>false)=b):(a_o l i).isSome=b:=by
 rw[s_e h,hk];cases hx:l[k]? with
 |none=>rw[hx]at hb;exact hb
 |some x=>
  rw[hx]at hb;rw[← hb];by_cases e:x.id=i<;>simp[Option.filter,e]
theorem i_d(A:Option Addr)(n c:Nat)(l:List Drv)(i:Int)(w:World)(hn64:n≤64)(hd:Drvs w w.heap.size A n l)(ha:AscD l):
 Calls Tryz.prog 98 #[.slice A n c,.int .i64 i,.func (.func 99) #[] #[]] w (a_y w (.tuple #[.int .i64 ((atD l i:Nat):Int),.bool (a_o l i).isSome])):=by
 have hm:=hd.2.1;unfold maxLen at hm;have HD:=Lib.hid hd;have HL:=Lib.hid hd.length;have HA:=Lib.hid ha;obtain⟨R,hR⟩:∃R,atD l i=R:=⟨_,rfl⟩;obtain⟨F,hF⟩:∃F,(a_o l i).isSome=F:=⟨_,rfl⟩;have HR:=Lib.hid hR;have HFF:=Lib.hid hF;rw[hR,hF];clear hd ha hR hF;go_enter Tryz.func98,Tryz.ntmps98;go_wp2_with fail
 go_loopw [9,10] (fun s9 s10 wr=>∃lo hi:Nat,s9=.int .i64 lo∧s10=.int .i64 hi∧lo≤hi∧hi≤n∧Hid (Below w.heap.size w wr)∧Hid ((∀ t x,t<lo→l[t]?=some x→x.id<i)∧(∀ t x,hi≤t→l[t]?=some x→i≤x.id))) (fun s9 s10 _=>(intOf s10-intOf s9).toNat)
 case atStart=>exact⟨0,n,rfl,rfl,Nat.zero_le _,Nat.le_refl _,Below.refl _ _,Lib.hid ⟨fun t x ht=>absurd ht (Nat.not_lt_zero _),fun t x h1 h2=>absurd (List.getElem?_eq_some_iff.1 h2).1 (by have:=HL.out;omega)⟩⟩
 case round=>
  obtain⟨lo,hi,rfl,rfl,hlh,hin,HB,HI⟩:=hrel;by_cases hlt:lo<hi
  ·obtain⟨bb,off,x,rfl,hbb,hx,_,c0,c1,c2,c3,c4,c5⟩:=Drvs.at_ (i:=(lo+hi)/2) (Recs.keep HD.out HB.out) (by omega)
   have HX:=Lib.hid hx;obtain⟨z,hz⟩:∃z,cmpI x.id i=z:=⟨_,rfl⟩;have HZ:=Lib.hid hz;by_cases hxi:x.id<i
   ·have hz0:z<0:=by rw[← hz];unfold cmpI;rw[if_pos hxi];omega
    have HN:Hid ((∀ t x,t<(lo+hi)/2+1→l[t]?=some x→x.id<i)∧(∀ t x,hi≤t→l[t]?=some x→i≤x.id)):=Lib.hid ⟨fun t y ht hy=>by have:=l_U HA.out hy HX.out (by omega);omega,HI.out.2⟩;clear hx hz hxi;go_wp2_with fail
    refine(e_c x i z _ HZ.out).mono ?_;rintro e w' ⟨rfl,hb2⟩;have HB2:=Lib.hid (HB.out.trans (hb2.mono HB.out.size));clear hb2 c0 c1 c2 c3 c4 c5;go_wp2_with fail
    go_roundw
    case rel=>exact⟨(lo+hi)/2+1,hi,by rw[show((lo:Int)+(hi:Int))/2+1=(((lo+hi)/2+1:Nat):Int) by omega],rfl,by omega,hin,HB2,HN⟩
    case measure=>simp[intOf];omega
   ·have hz0:¬z<0:=by rw[← hz];unfold cmpI;rw[if_neg hxi];split<;>omega
    have HN:Hid ((∀ t x,t<lo→l[t]?=some x→x.id<i)∧(∀ t x,(lo+hi)/2≤t→l[t]?=some x→i≤x.id)):=Lib.hid ⟨HI.out.1,fun t y ht hy=>by have:=l_U HA.out HX.out hy ht;omega⟩;clear hx hz hxi;go_wp2_with fail
    refine(e_c x i z _ HZ.out).mono ?_;rintro e w' ⟨rfl,hb2⟩;have HB2:=Lib.hid (HB.out.trans (hb2.mono HB.out.size));clear hb2 c0 c1 c2 c3 c4 c5;go_wp2_with fail
    go_roundw
    case rel=>exact⟨lo,(lo+hi)/2,rfl,by rw[show((lo:Int)+(hi:Int))/2=(((lo+hi)/2:Nat):Int) by omega],by omega,by omega,HB2,HN⟩
    case measure=>simp[intOf];omega
  ·obtain rfl:hi=lo:=by omega
   have HRK:Hid (hi=R):=by show _=_;rw[← HR.out];exact(s_P (by have:=HL.out;omega) HI.out.1 HI.out.2).symm
   by_cases hn:hi<n
   ·obtain⟨bb,off,x,rfl,hbb,hx,_,c0,c1,c2,c3,c4,c5⟩:=Drvs.at_ (i:=hi) (Recs.keep HD.out HB.out) hn
    have HX:=Lib.hid hx;obtain⟨z,hz⟩:∃z,cmpI x.id i=z:=⟨_,rfl⟩;have HZ:=Lib.hid hz;have hnl:=Int.not_lt.2 (HI.out.2 hi x (Nat.le_refl _) hx);obtain⟨t,ht⟩:∃t,(z==0)=t:=⟨_,rfl⟩
    have HFT:Hid (t=F):=by
     show _=_;rw[← HFF.out,←ht];refine(j_h HA.out (k:=hi) (by rw[HRK.out];exact HR.out) ?_).symm;rw[hx];simp only;rw[← hz];unfold cmpI;rw[if_neg hnl];by_cases e:i<x.id
     ·rw[if_pos e,decide_eq_false (by omega)];rfl
     ·rw[if_neg e,decide_eq_true (by omega)];rfl
    clear hx hz hnl;go_wp2_with fail
    refine(e_c x i z _ HZ.out).mono ?_;rintro e w' ⟨rfl,hb2⟩;have HB2:=Lib.hid (HB.out.trans (hb2.mono HB.out.size));clear hb2 c0 c1 c2 c3 c4 c5;go_wp2_with fail
    go_ret2
    exact⟨by rw[← HRK.out,←HFT.out];first|rfl|simp[ht],HB2.out⟩
   ·have HFT:Hid (false=F):=by
     show _=_;rw[← HFF.out];refine(j_h HA.out (k:=hi) (by rw[HRK.out];exact HR.out) ?_).symm;rw[List.getElem?_eq_none (by have:=HL.out;omega)]
    go_wp2_with fail
    go_ret2
    exact⟨by rw[← HRK.out,←HFT.out];first|rfl|simp,HB.out⟩
theorem phired_any(x:Bv)(b:Bk)(ps:List RM)(i:Int)(w:World)(hx:BkR w w.heap.size x b ps)(h64:b.ds.length≤64)(ha:AscD b.ds):Calls Tryz.prog 48 #[bkV x,.int .i64 i] w (a_y w (.tuple #[.int .i64 ((atD b.ds i:Nat):Int),.bool (a_o b.ds i).isSome])):=by
 have HX:=Lib.hid hx;have HA:=Lib.hid ha;have HB0:Hid (Below w.heap.size w (w.alloc (.cells #[x.ds.v,x.os.v,x.pl.v] 42))):=(Below.refl _ _).alloc (Nat.le_refl _) _;have HW0:=Lib.hid (BBox.new w 42 x);obtain⟨R,hR⟩:∃R,atD b.ds i=R:=⟨_,rfl⟩;obtain⟨F,hF⟩:∃F,(a_o b.ds i).isSome=F:=⟨_,rfl⟩;have HR:=Lib.hid hR;have HFF:=Lib.hid hF;rw[hR,hF];clear hx ha hR hF;go_enter Tryz.func48,Tryz.ntmps48;obtain⟨c0,c1,c2⟩:=HW0.out.cells;go_wp2_with fail
 refine(i_d _ _ _ b.ds i _ (by rw[← HX.out.dn];exact h64) (by exact(HX.out.next HB0.out).ds) HA.out).mono ?_;rintro e w1 ⟨rfl,hb1⟩;rw[HR.out,HFF.out];have HB1:=Lib.hid (HB0.out.trans (hb1.mono HB0.out.size));clear hb1 HB0 HW0 c0 c1 c2;go_wp2_with fail
 go_ret2
 exact⟨rfl,HB1.out⟩
theorem s_Q{l:List FleetMath.Ord}{i:Int}{k:Nat}(hk:k≤l.length)(h1:∀t x,t<k→l[t]?=some x→x.id<i)(h2:∀t x,k≤t→l[t]?=some x→i≤x.id):atO l i=k:=s_d (f:=fun x:FleetMath.Ord=>x.id) hk h1 fun x hx=>Int.not_lt.2 (h2 k x (Nat.le_refl _) hx)
theorem l_V{l:List FleetMath.Ord}(h:AscO l){s t:Nat}{x y:FleetMath.Ord}(hs:l[s]?=some x)(ht:l[t]?=some y)(hst:s≤t):x.id≤y.id:=by
 rcases Nat.lt_or_ge s t with h1|h1
 ·obtain⟨h2,h3⟩:=List.getElem?_eq_some_iff.1 hs
  obtain⟨h4,h5⟩:=List.getElem?_eq_some_iff.1 ht;have:=List.pairwise_iff_getElem.1 h _ _ h2 h4 h1;rw[h3,h5]at this;omega
 ·have e:s=t:=by omega
  subst e;rw[hs]at ht;injection ht with ht;rw[ht];exact Int.le_refl _
theorem j_i{l:List FleetMath.Ord}{i:Int}(h:AscO l){k:Nat}(hk:atO l i=k){b:Bool}(hb:(match l[k]? with|some x=>decide (x.id=i)|none=>false)=b):(find l i).isSome=b:=by
 rw[s_N h,hk];cases hx:l[k]? with
 |none=>rw[hx]at hb;exact hb
 |some x=>
  rw[hx]at hb;rw[← hb];by_cases e:x.id=i<;>simp[Option.filter,e]
theorem i_e(A:Option Addr)(n c:Nat)(l:List FleetMath.Ord)(i:Int)(w:World)(hn64:n≤64)(hd:Ords w w.heap.size A n l)(ha:AscO l):
 Calls Tryz.prog 89 #[.slice A n c,.int .i64 i,.func (.func 90) #[] #[]] w (a_y w (.tuple #[.int .i64 ((atO l i:Nat):Int),.bool (find l i).isSome])):=by
 have hm:=hd.2.1;unfold maxLen at hm;have HD:=Lib.hid hd;have HL:=Lib.hid hd.length;have HA:=Lib.hid ha;obtain⟨R,hR⟩:∃R,atO l i=R:=⟨_,rfl⟩;obtain⟨F,hF⟩:∃F,(find l i).isSome=F:=⟨_,rfl⟩;have HR:=Lib.hid hR;have HFF:=Lib.hid hF;rw[hR,hF];clear hd ha hR hF;go_enter Tryz.func89,Tryz.ntmps89;go_wp2_with fail
 go_loopw [9,10] (fun s9 s10 wr=>∃lo hi:Nat,s9=.int .i64 lo∧s10=.int .i64 hi∧lo≤hi∧hi≤n∧Hid (Below w.heap.size w wr)∧Hid ((∀ t x,t<lo→l[t]?=some x→x.id<i)∧(∀ t x,hi≤t→l[t]?=some x→i≤x.id))) (fun s9 s10 _=>(intOf s10-intOf s9).toNat)
 case atStart=>exact⟨0,n,rfl,rfl,Nat.zero_le _,Nat.le_refl _,Below.refl _ _,Lib.hid ⟨fun t x ht=>absurd ht (Nat.not_lt_zero _),fun t x h1 h2=>absurd (List.getElem?_eq_some_iff.1 h2).1 (by have:=HL.out;omega)⟩⟩
 case round=>
  obtain⟨lo,hi,rfl,rfl,hlh,hin,HB,HI⟩:=hrel;by_cases hlt:lo<hi
  ·obtain⟨bb,off,x,rfl,hbb,hx,_,c0,c1,c2,c3,c4,c5,c6,c7,c8,c9⟩:=Ords.at_ (i:=(lo+hi)/2) (Recs.keep HD.out HB.out) (by omega)
   have HX:=Lib.hid hx;obtain⟨z,hz⟩:∃z,cmpI x.id i=z:=⟨_,rfl⟩;have HZ:=Lib.hid hz;by_cases hxi:x.id<i
   ·have hz0:z<0:=by rw[← hz];unfold cmpI;rw[if_pos hxi];omega
    have HN:Hid ((∀ t x,t<(lo+hi)/2+1→l[t]?=some x→x.id<i)∧(∀ t x,hi≤t→l[t]?=some x→i≤x.id)):=Lib.hid ⟨fun t y ht hy=>by have:=l_V HA.out hy HX.out (by omega);omega,HI.out.2⟩;clear hx hz hxi;go_wp2_with fail
    refine(d_B x i z _ HZ.out).mono ?_;rintro e w' ⟨rfl,hb2⟩;have HB2:=Lib.hid (HB.out.trans (hb2.mono HB.out.size));clear hb2 c0 c1 c2 c3 c4 c5 c6 c7 c8 c9;go_wp2_with fail
    go_roundw
    case rel=>exact⟨(lo+hi)/2+1,hi,by rw[show((lo:Int)+(hi:Int))/2+1=(((lo+hi)/2+1:Nat):Int) by omega],rfl,by omega,hin,HB2,HN⟩
    case measure=>simp[intOf];omega
   ·have hz0:¬z<0:=by rw[← hz];unfold cmpI;rw[if_neg hxi];split<;>omega
    have HN:Hid ((∀ t x,t<lo→l[t]?=some x→x.id<i)∧(∀ t x,(lo+hi)/2≤t→l[t]?=some x→i≤x.id)):=Lib.hid ⟨HI.out.1,fun t y ht hy=>by have:=l_V HA.out HX.out hy ht;omega⟩;clear hx hz hxi;go_wp2_with fail
    refine(d_B x i z _ HZ.out).mono ?_;rintro e w' ⟨rfl,hb2⟩;have HB2:=Lib.hid (HB.out.trans (hb2.mono HB.out.size));clear hb2 c0 c1 c2 c3 c4 c5 c6 c7 c8 c9;go_wp2_with fail
    go_roundw
    case rel=>exact⟨lo,(lo+hi)/2,rfl,by rw[show((lo:Int)+(hi:Int))/2=(((lo+hi)/2:Nat):Int) by omega],by omega,by omega,HB2,HN⟩
    case measure=>simp[intOf];omega
  ·obtain rfl:hi=lo:=by omega
   have HRK:Hid (hi=R):=by show _=_;rw[← HR.out];exact(s_Q (by have:=HL.out;omega) HI.out.1 HI.out.2).symm
   by_cases hn:hi<n
   ·obtain⟨bb,off,x,rfl,hbb,hx,_,c0,c1,c2,c3,c4,c5,c6,c7,c8,c9⟩:=Ords.at_ (i:=hi) (Recs.keep HD.out HB.out) hn
    have HX:=Lib.hid hx;obtain⟨z,hz⟩:∃z,cmpI x.id i=z:=⟨_,rfl⟩;have HZ:=Lib.hid hz;have hnl:=Int.not_lt.2 (HI.out.2 hi x (Nat.le_refl _) hx);obtain⟨t,ht⟩:∃t,(z==0)=t:=⟨_,rfl⟩
    have HFT:Hid (t=F):=by
     show _=_;rw[← HFF.out,←ht];refine(j_i HA.out (k:=hi) (by rw[HRK.out];exact HR.out) ?_).symm;rw[hx];simp only;rw[← hz];unfold cmpI;rw[if_neg hnl];by_cases e:i<x.id
     ·rw[if_pos e,decide_eq_false (by omega)];rfl
     ·rw[if_neg e,decide_eq_true (by omega)];rfl
    clear hx hz hnl;go_wp2_with fail
    refine(d_B x i z _ HZ.out).mono ?_;rintro e w' ⟨rfl,hb2⟩;have HB2:=Lib.hid (HB.out.trans (hb2.mono HB.out.size));clear hb2 c0 c1 c2 c3 c4 c5 c6 c7 c8 c9;go_wp2_with fail
    go_ret2
    exact⟨by rw[← HRK.out,←HFT.out];first|rfl|simp[ht],HB2.out⟩
   ·have HFT:Hid (false=F):=by
     show _=_;rw[← HFF.out];refine(j_i HA.out (k:=hi) (by rw[HRK.out];exact HR.out) ?_).symm;rw[List.getElem?_eq_none (by have:=HL.out;omega)]
    go_wp2_with fail
    go_ret2
    exact⟨by rw[← HRK.out,←HFT.out];first|rfl|simp,HB.out⟩
theorem plisted_any(x:Bv)(b:Bk)(ps:List RM)(i:Int)(w:World)(hx:BkR w w.heap.size x b ps)(h64:b.os.length≤64)(ha:AscO b.os):Calls Tryz.prog 40 #[bkV x,.int .i64 i] w (a_y w (.tuple #[.int .i64 ((atO b.os i:Nat):Int),.bool (find b.os i).isSome])):=by
 have HX:=Lib.hid hx;have HA:=Lib.hid ha;have HB0:Hid (Below w.heap.size w (w.alloc (.cells #[x.ds.v,x.os.v,x.pl.v] 42))):=(Below.refl _ _).alloc (Nat.le_refl _) _;have HW0:=Lib.hid (BBox.new w 42 x);obtain⟨R,hR⟩:∃R,atO b.os i=R:=⟨_,rfl⟩;obtain⟨F,hF⟩:∃F,(find b.os i).isSome=F:=⟨_,rfl⟩;have HR:=Lib.hid hR;have HFF:=Lib.hid hF;rw[hR,hF];clear hx ha hR hF;go_enter Tryz.func40,Tryz.ntmps40;obtain⟨c0,c1,c2⟩:=HW0.out.cells;go_wp2_with fail
 refine(i_e _ _ _ b.os i _ (by rw[← HX.out.on];exact h64) (by exact(HX.out.next HB0.out).os) HA.out).mono ?_;rintro e w1 ⟨rfl,hb1⟩;rw[HR.out,HFF.out];have HB1:=Lib.hid (HB0.out.trans (hb1.mono HB0.out.size));clear hb1 HB0 HW0 c0 c1 c2;go_wp2_with fail
 go_ret2
 exact⟨rfl,HB1.out⟩
theorem r_E{os:List FleetMath.Ord}{t:Nat}{x y:FleetMath.Ord}(hx:os[t+1]?=some x)(hy:os[t]?=some y)(h:x.id<y.id):j_d os=false:=by
 unfold j_d;rw[decide_eq_false_iff_not];intro hp;obtain⟨h1,h2⟩:=List.getElem?_eq_some_iff.1 hx;obtain⟨h3,h4⟩:=List.getElem?_eq_some_iff.1 hy;have:=List.pairwise_iff_getElem.1 hp t (t+1) h3 h1 (by omega);rw[h2,h4]at this;omega
theorem p_C{os:List FleetMath.Ord}{t:Nat}{x y:FleetMath.Ord}(hx:os[t+1]?=some x)(hy:os[t]?=some y)(h:¬x.id<y.id)(hp:(os.drop (t+1)).Pairwise fun a b=>a.id≤b.id):(os.drop t).Pairwise fun a b=>a.id≤b.id:=by
 have e1:os.drop t=y::os.drop (t+1):=by
  obtain⟨h3,h4⟩:=List.getElem?_eq_some_iff.1 hy;rw[List.drop_eq_getElem_cons h3,h4]
 have e2:os.drop (t+1)=x::os.drop (t+1+1):=by
  obtain⟨h3,h4⟩:=List.getElem?_eq_some_iff.1 hx;rw[List.drop_eq_getElem_cons h3,h4]
 rw[e1];refine List.pairwise_cons.2 ⟨fun z hz=>?_,hp⟩;rw[e2]at hz hp;rcases List.mem_cons.1 hz with rfl|hz
 ·omega
 ·have:=(List.pairwise_cons.1 hp).1 z hz
  omega
theorem k_1(A:Option Addr)(n c:Nat)(os:List FleetMath.Ord)(b:Bool)(w:World)(ho:Ords w w.heap.size A n os)(hb:j_d os=b):
 Calls Tryz.prog 44 #[.slice A n c,.func (.func 45) #[] #[]] w (a_y w (.bool b)):=by
 have hm:=Recs.le ho;have HO:=Lib.hid ho;have HL:=Lib.hid ho.length;have HB:=Lib.hid hb;clear ho hb;go_enter Tryz.func44,Tryz.ntmps44;go_wp2_with fail
 go_loopw [5] (fun iv wr=>∃(iz:Int) (i:Nat),iv=.int .i64 iz∧(0<iz→iz=i∧i<n)∧(¬ 0<iz→i=0)∧Hid (Below w.heap.size w wr)∧Hid ((os.drop i).Pairwise fun a b=>a.id≤b.id)) (fun iv _=>(intOf iv).toNat)
 case atStart=>
  refine⟨(n:Int)-1,n-1,rfl,fun h=>⟨by omega,by omega⟩,fun h=>by omega,Below.refl _ _,?_⟩;show List.Pairwise _ _;have hl:(os.drop (n-1)).length≤1:=by rw[List.length_drop,HL.out];omega
  cases hd:os.drop (n-1)with
  |nil=>exact List.Pairwise.nil
  |cons x r=>
   rw[hd]at hl;have:r=[]:=List.eq_nil_of_length_eq_zero (by simpa using hl);rw[this];simp
 case round=>
  obtain⟨iz,i,rfl,h1,h2,HW,HP⟩:=hrel;by_cases hlt:0<iz
  ·obtain⟨rfl,hin⟩:=h1 hlt
   obtain⟨t,rfl⟩:∃t,i=t+1:=⟨i-1,by omega⟩;clear h1 h2;obtain⟨bb,off,x,rfl,hbb,hx,_⟩:=Ords.at_ (i:=t+1) (Recs.keep HO.out HW.out) hin;obtain⟨_,_,y,_,_,hy,_⟩:=Ords.at_ (i:=t) (Recs.keep HO.out HW.out) (by omega);have HX:=Lib.hid hx;have HY:=Lib.hid hy;obtain⟨z,hz⟩:∃z,cmpI x.id y.id=z:=⟨_,rfl⟩;have HZ:=Lib.hid hz;have HK:Hid (∀ u,Below wr.heap.size wr u→Ords u u.heap.size (some ⟨bb,off,none⟩) n os):=Lib.hid fun u hu=>Recs.more (Recs.keep HO.out (HW.out.trans (hu.mono HW.out.size))) (HW.out.trans (hu.mono HW.out.size)).size;have hlt':((t+1:Nat):Int)>0:=hlt;have hwt:((t+1:Nat):Int)-1=(t:Int)∧IntKind.i64.wrap (t:Int)=(t:Int):=⟨by omega,IntWalk.i64_in _ (by omega)⟩;have HWT:=Lib.hid hwt;obtain⟨k,hk⟩:∃k,t+1=k:=⟨_,rfl⟩;rw[hk]at hlt HWT;have HKK:=Lib.hid hk;have hkn:k<n:=by omega
   have htn:t<n:=by omega
   have e1:(0:Int)<(k:Int):=by omega
   rw[hk];clear hx hy hz hwt hlt' hk hin hlt;go_upto_region 4 with fail
   go_cut [24]from 13 to 24 (fun bv wx=>bv=.bool (decide (z<0))∧Hid (Below wr.heap.size wr wx))
   case first=>
    refine a_s (valRF [13,14,15,16,17,18,19,20,21,22,23,24] [.func (.func 45) #[] #[],.slice (some ⟨bb,off,none⟩) n c,.int .i64 ((k:Nat):Int),.pointer (some ⟨bb,off+k*10,none⟩),ordV x,.slice (some ⟨bb,off,none⟩) n c,.int .i64 ((k:Nat):Int),.int .i64 ((t:Nat):Int),.pointer (some ⟨bb,off+t*10,none⟩),ordV y,.int .i64 z,.bool (decide (z<0))]) (by kernel_rfl) (by kernel_rfl) (by kernel_rfl) (fun _ _=>rfl) (by kernel_rfl) valRF.mon ?_ ?_
    ·refine⟨?_,?_,?_,?_,?_,?_,?_,?_,?_,?_,?_,?_,trivial⟩
     ·exact valRF.pureStep rfl 13 rfl rfl (by simp) _ rfl fun listed a u D hI hr hn=>a_a (.inl rfl) (hI.out 1 (by kernel_rfl))
     ·exact valRF.pureStep rfl 14 rfl rfl (by simp) _ rfl fun listed a u D hI hr hn=>a_a (.inl rfl) (hI.out 0 (by kernel_rfl))
     ·exact valRF.pureStep rfl 15 rfl rfl (by simp) _ rfl fun listed a u D hI hr hn=>a_a (.inl rfl) (hI.out 5 (by kernel_rfl))
     ·exact valRF.pureStep rfl 16 rfl rfl (by simp) _ rfl fun listed a u D hI hr hn=>p_w rfl (valRF.val hI hr hn 1 (by kernel_rfl) rfl rfl) (valRF.val hI hr hn 2 (by kernel_rfl) rfl rfl) hkn hm
     ·exact valRF.pureStep rfl 17 rfl rfl (by simp) _ rfl fun listed a u D hI hr hn=>a_f rfl (valRF.val hI hr hn 3 (by kernel_rfl) rfl rfl) (p_x (HK.out _ (a_C hI.old)) (by rw[← HKK.out];exact HX.out))
     ·exact valRF.pureStep rfl 18 rfl rfl (by simp) _ rfl fun listed a u D hI hr hn=>a_a (.inl rfl) (hI.out 0 (by kernel_rfl))
     ·exact valRF.pureStep rfl 19 rfl rfl (by simp) _ rfl fun listed a u D hI hr hn=>a_a (.inl rfl) (hI.out 5 (by kernel_rfl))
     ·exact valRF.pureStep rfl 20 rfl rfl (by simp) _ rfl fun listed a u D hI hr hn=>t_s rfl (valRF.val hI hr hn 6 (by kernel_rfl) rfl rfl) rfl HWT.out
     ·exact valRF.pureStep rfl 21 rfl rfl (by simp) _ rfl fun listed a u D hI hr hn=>p_w rfl (valRF.val hI hr hn 5 (by kernel_rfl) rfl rfl) (valRF.val hI hr hn 7 (by kernel_rfl) rfl rfl) htn hm
     ·exact valRF.pureStep rfl 22 rfl rfl (by simp) _ rfl fun listed a u D hI hr hn=>a_f rfl (valRF.val hI hr hn 8 (by kernel_rfl) rfl rfl) (p_x (HK.out _ (a_C hI.old)) HY.out)
     ·exact valRF.callStep rfl 23 rfl rfl (by simp) _ rfl fun listed a u D hI hr hn=>⟨_,_,p_v rfl (valRF.val hI hr hn 0 (by kernel_rfl) rfl rfl) (valRF.val hI hr hn 4 (by kernel_rfl) rfl rfl) (valRF.val hI hr hn 9 (by kernel_rfl) rfl rfl) (by simp[go_sem]),k_Z x y z u HZ.out⟩
     ·exact valRF.pureStep rfl 24 rfl rfl (by simp) _ rfl fun listed a u D hI hr hn=>t_r rfl (valRF.val hI hr hn 10 (by kernel_rfl) rfl rfl) rfl rfl
    ·intro listed a u D hI hall
     have eR0:a.tmps.getD 24 undef=.bool (decide (z<0)):=(hI.fact 11 ⟨hall 11 (by simp),fun k hk=>by cases hk⟩).1;have hold:=a_C hI.old;have hl:=hI.fill [13,14,15,16,17,18,19,20,21,22,23,24] (by kernel_rfl);clear hI hall;obtain⟨σ,hσ⟩:∃σ:Nat→Value,∀t,a.tmps.getD t undef=σ t:=⟨_,fun _=>rfl⟩;simp only[hσ]at hl eR0;clear hσ;simp only[List.foldl_cons,List.foldl_nil,List.setIfInBounds_toArray,List.set_cons_zero,List.set_cons_succ,eR0]at hl;subst hl;go_wp2_with fail
     go_meet
     exact⟨rfl,hold⟩
   case rest=>
   obtain⟨rfl,HC⟩:=hcut;obtain⟨w6,rfl⟩:∃u,u=wc:=⟨_,rfl⟩;have HB6:Hid (Below w.heap.size w w6):=HW.out.trans (HC.out.mono HW.out.size);have hw2:=HWT.out.1;have hw3:=HWT.out.2;by_cases hz0:z<0
   ·have HF:Hid (false=b):=by
     show _=_
     rw[← HB.out,r_E (t:=t) HX.out HY.out (by
      have h3:=HZ.out;unfold cmpI at h3;split at h3
      ·assumption
      ·split at h3<;>omega)]
    go_wp2_with fail
    go_ret;exact⟨a_j HF.out,HB6.out⟩
   ·have HN:Hid ((os.drop t).Pairwise fun a b=>a.id≤b.id):=by
     show List.Pairwise _ _;refine p_C (t:=t) HX.out HY.out (fun h=>hz0 ?_) HP.out;rw[← HZ.out];unfold cmpI;rw[if_pos h];omega
    go_wp2_with fail
    go_roundw
    case rel=>exact⟨(t:Int),t,rfl,fun h=>⟨rfl,htn⟩,fun h=>by omega,HB6,HN⟩
    case measure=>simp[intOf];omega
  ·have hi0:=h2 hlt
   subst hi0
   have HF:Hid (true=b):=by
    show _=_;rw[← HB.out];unfold j_d;rw[decide_eq_true];exact HP.out
   go_wp2_with fail
   go_ret;exact⟨a_j HF.out,HW.out⟩
theorem pright_any(base:Nat)(q:Option Addr)(m:Option Mp)(x:Bv)(b:Bk)(ps:List RM)(r:Bool)(w:World)(h:MapP w 92 base (.pointer q) m)(hx:BkR w w.heap.size x b ps)(hr:a_q m b=r):
 Calls Tryz.prog 12 #[.pointer q,bkV x] w (a_y w (.bool r)):=by
 have HM:=Lib.hid h;have HX:=Lib.hid hx;have HR:Hid ((decide (c_a m b.ds b.os b.pl=[]) && p_s b && j_d b.os)=r):=by show _=_;rw[← n_m];exact hr
 have HB0:Hid (Below w.heap.size w (w.alloc (.cells #[x.ds.v,x.os.v,x.pl.v] 42))):=(Below.refl _ _).alloc (Nat.le_refl _) _;have HW0:=Lib.hid (BBox.new w 42 x);have HAU:Hid (c_a m b.ds b.os (ps.map (·.rt))=c_a m b.ds b.os b.pl):=by show _=_;rw[hx.rt]
 obtain⟨T,hT⟩:∃T,c_a m b.ds b.os b.pl=T:=⟨_,rfl⟩;have HT:=Lib.hid hT;clear h hx hr hT;obtain⟨c0,c1,c2⟩:=HW0.out.cells;go_enter Tryz.func12,Tryz.ntmps12;go_wp2_with fail
 refine(h_b base q m x.ds.a x.ds.n x.ds.c b.ds x.os.a x.os.n x.os.c b.os x.pl.a x.pl.n x.pl.c ps _ x.ds.h x.os.h x.pl.h (by exact HM.out.keep HB0.out) (by exact(HX.out.next HB0.out).ds) (by exact(HX.out.next HB0.out).os) (by exact(HX.out.next HB0.out).pl)).mono ?_;rintro e w1 ⟨v1,rfl,hb1,ho1⟩;rw[HAU.out,HT.out]at ho1;obtain⟨A1,c1',rfl,_,_⟩:=ho1.read;have HB1:=Lib.hid (HB0.out.trans (hb1.mono HB0.out.size));have HW1:=Lib.hid (HW0.out.below hb1);obtain⟨tn,htn⟩:∃k,T.length=k:=⟨_,rfl⟩;have HTN:=Lib.hid htn;rw[htn];clear hb1 ho1 HB0 HW0 c0 c1 c2 htn;by_cases h0:tn=0
 case neg=>
  have HF:Hid (false=r):=by
   show _=_;rw[← HR.out,HT.out,decide_eq_false (fun e=>h0 (by rw[← HTN.out,e];rfl))];rfl
  have e1:((tn:Int)==0)=false:=by simp;omega
  clear h0;go_wp2_with fail
  go_ret;exact⟨a_j HF.out,HB1.out⟩
 subst h0;have HTE:Hid (T=[]):=List.eq_nil_of_length_eq_zero HTN.out;obtain⟨p1,hp1⟩:∃p,p_s b=p:=⟨_,rfl⟩;have HP1:=Lib.hid hp1
 have HPP:Hid (decide (ps.map (·.rt.drv)=b.ds.map (·.id))=p1):=by
  show _=_;rw[← hp1];unfold p_s;rw[← HX.out.rt,List.map_map];rfl
 clear hp1;obtain⟨c0,c1,c2⟩:=HW1.out.cells;go_wp2_with fail
 refine(k_0 x.pl.a x.pl.n x.pl.c ps x.ds.a x.ds.n x.ds.c b.ds p1 _ (by exact(HX.out.next HB1.out).pl) (by exact(HX.out.next HB1.out).ds) HPP.out).mono ?_;rintro e w2 ⟨rfl,hb2⟩;have HB2:=Lib.hid (HB1.out.trans (hb2.mono HB1.out.size));have HW2:=Lib.hid (HW1.out.below hb2);clear hb2 HB1 HW1 c0 c1 c2;cases p1 with
 |false=>
  have HF:Hid (false=r):=by
   show _=_;rw[← HR.out,HP1.out];simp
  go_wp2_with fail
  go_ret;exact⟨a_j HF.out,HB2.out⟩
 |true=>
 have HS:Hid (j_d b.os=r):=by
  show _=_;rw[← HR.out,HP1.out,HT.out,HTE.out];simp
 obtain⟨c0,c1,c2⟩:=HW2.out.cells;go_wp2_with fail
 refine(k_1 x.os.a x.os.n x.os.c b.os r _ (by exact(HX.out.next HB2.out).os) HS.out).mono ?_;rintro e w3 ⟨rfl,hb3⟩;have HB3:=Lib.hid (HB2.out.trans (hb3.mono HB2.out.size));clear hb3 c0 c1 c2;go_wp2_with fail
 go_ret;exact⟨by first|rfl|simp,HB3.out⟩
structure PC(w:World)(q:Option Addr)(m:Option Mp)(base g1 g2:Nat)(x:Bv)(b:Bk)(ps:List RM)(u:World):Prop where
 old:Below w.heap.size w u
 map:MapP w 92 base (.pointer q) m
 bk:BkR w w.heap.size x b ps
 arg:BBox u g1 42 x
 res:BBox u g2 42 bv0
section
variable {w u u' : World} {q : Option Addr} {m : Option Mp} {base g1 g2 : Nat} {x : Bv} {b : Bk} {ps : List RM}
theorem PC.next(h:PC w q m base g1 g2 x b ps u)(hb:Below u.heap.size u u'):PC w q m base g1 g2 x b ps u':=⟨h.old.trans (hb.mono h.old.size),h.map,h.bk,h.arg.below hb,h.res.below hb⟩
theorem PC.mp(h:PC w q m base g1 g2 x b ps u):MapP u 92 base (.pointer q) m:=h.map.keep h.old
theorem PC.read(h:PC w q m base g1 g2 x b ps u):BkR u u.heap.size x b ps:=h.bk.next h.old
end
abbrev put3(u:World)(g:Nat)(a b c:Value):World:=((u.setCell ⟨g,0,none⟩ a).setCell ⟨g,1,none⟩ b).setCell ⟨g,2,none⟩ c
theorem a_i{u:World}{g:Nat}{t:TypeId}(h:BBox u g t bv0):(put3 u g (.slice none 0 0) (.slice none 0 0) (.slice none 0 0)).cell? ⟨g,0,none⟩=some (.slice none 0 0)∧(put3 u g (.slice none 0 0) (.slice none 0 0) (.slice none 0 0)).cell? ⟨g,1,none⟩=some (.slice none 0 0)∧(put3 u g (.slice none 0 0) (.slice none 0 0) (.slice none 0 0)).cell? ⟨g,2,none⟩=some (.slice none 0 0):=(c_z h bv0).cells
theorem b_r{w u:World}{g:Nat}{a b c:Value}(h:Below w.heap.size w u)(hg:w.heap.size≤g):Below w.heap.size w (put3 u g a b c):=((h.setCell hg _).setCell hg _).setCell hg _
theorem a_r{w u:World}{g:Nat}(h:Below w.heap.size w u)(hg:w.heap.size≤g):Below w.heap.size w (put3 u g (.slice none 0 0) (.slice none 0 0) (.slice none 0 0)):=b_r h hg
theorem a_t{u:World}{g:Nat}{t:TypeId}{z:Bv}(h:BBox u g t z)(y:Bv):(put3 u g y.ds.v y.os.v y.pl.v).cell? ⟨g,0,none⟩=some y.ds.v∧(put3 u g y.ds.v y.os.v y.pl.v).cell? ⟨g,1,none⟩=some y.os.v∧(put3 u g y.ds.v y.os.v y.pl.v).cell? ⟨g,2,none⟩=some y.pl.v:=(c_z h y).cells
theorem c_H{w u u':World}{g:Nat}{t:TypeId}{z x y:Bv}{b:Bk}{ps:List RM}(hb:Below w.heap.size w u)(hg:BBox u g t z)(h:BkN u u' y b ps)(hw:w.heap.size≤g):BkN w (put3 u' g x.ds.v x.os.v x.pl.v) y b ps:=by
 have ho:=a_M u' g x;have hlt:g<u.heap.size:=Blk.lt hg;exact⟨(ho.own h.ds hlt).lower hb.size,(ho.own h.os hlt).lower hb.size,⟨b_r (hb.trans (h.old.mono hb.size)) hw,(ho.own h.pl.own hlt).lower hb.size,fun r hr=>⟨(ho.own (h.pl.each r hr).1 hlt).lower hb.size,(h.pl.each r hr).2⟩⟩,h.rt,h.fits,h.two⟩
theorem p_D{m:Option Mp}{b nb:Bk}(h:¬(a_q m nb=true∧b_S b.pl nb.pl=true)):b_H m b nb=(bk0,21):=if_neg h
theorem d_C(base:Nat)(q:Option Addr)(m:Option Mp)(x:Bv)(b:Bk)(ps:List RM)(x2:Bv)(nb:Bk)(ps2:List RM)(w:World)(h:MapP w 92 base (.pointer q) m)(hx:BkR w w.heap.size x b ps)(hy:BkR w w.heap.size x2 nb ps2):
 Calls Tryz.prog 22 #[.pointer q,bkV x,bkV x2] w (BkOk w (b_H m b nb)):=by
 have HS:Hid (PC w q m base w.heap.size (w.heap.size+2) x b ps (((w.alloc (.cells #[x.ds.v,x.os.v,x.pl.v] 42)).alloc (.cells #[x2.ds.v,x2.os.v,x2.pl.v] 42)).alloc (.cells #[.slice none 0 0,.slice none 0 0,.slice none 0 0] 42))):=by
  refine⟨(((Below.refl _ _).alloc (Nat.le_refl _) _).alloc (by simp) _).alloc (by simp;omega) _,h,hx,(BBox.new w _ x).below ?_,?_⟩
  ·exact((Below.refl _ _).alloc (Nat.le_refl _) _).alloc (by simp) _
  ·have:=BBox.new ((w.alloc (.cells #[x.ds.v,x.os.v,x.pl.v] 42)).alloc (.cells #[x2.ds.v,x2.os.v,x2.pl.v] 42)) 42 bv0
   simpa using this
 have HN:Hid (BBox (((w.alloc (.cells #[x.ds.v,x.os.v,x.pl.v] 42)).alloc (.cells #[x2.ds.v,x2.os.v,x2.pl.v] 42)).alloc (.cells #[.slice none 0 0,.slice none 0 0,.slice none 0 0] 42)) (w.heap.size+1) 42 x2):=by
  have:=(BBox.new (w.alloc (.cells #[x.ds.v,x.os.v,x.pl.v] 42)) 42 x2).below ((Below.refl _ _).alloc (Nat.le_refl _) (.cells #[.slice none 0 0,.slice none 0 0,.slice none 0 0] 42));show BBox _ _ _ _;simpa using this
 have HY:=Lib.hid hy;clear h hx hy;go_enter Tryz.func22,Tryz.ntmps22;go_upto_region 1 with fail
 try simp only[World.size_alloc,Nat.add_assoc,Nat.reduceAdd]
 obtain⟨X,hX⟩:∃u,(((w.alloc (.cells #[x.ds.v,x.os.v,x.pl.v] 42)).alloc (.cells #[x2.ds.v,x2.os.v,x2.pl.v] 42)).alloc (.cells #[.slice none 0 0,.slice none 0 0,.slice none 0 0] 42))=u:=⟨_,rfl⟩;rw[hX]at HS HN ⊢;clear hX;have HRB:Hid (BkR X X.heap.size x2 nb ps2):=HY.out.next HS.out.old;obtain⟨c0,c1,c2⟩:=HS.out.arg.cells;obtain⟨d0,d1,d2⟩:=HN.out.cells;go_wp2_with fail
 obtain⟨r1,hr1⟩:∃r,a_q m nb=r:=⟨_,rfl⟩;refine(pright_any base q m x2 nb ps2 r1 _ (by exact HS.out.mp) (by exact HRB.out) hr1).mono ?_;rintro e w1 ⟨rfl,hb1⟩;have HS1:=Lib.hid (HS.out.next hb1);have HN1:=Lib.hid (HN.out.below hb1);have HR1:=Lib.hid hr1;clear hb1 hr1 HS HN HRB c0 c1 c2 d0 d1 d2;cases r1 with
 |false=>
  have HG:Hid ((bk0,(21:Int))=b_H m b nb):=(p_D (fun hc=>by rw[HR1.out]at hc;cases hc.1)).symm;obtain⟨y0,y1,y2⟩:=HS1.out.res.cells;have hff:=Blk.free HS1.out.res;have HRS:=Lib.hid (a_i HS1.out.res);have HBR:=Lib.hid (a_r (g:=w.heap.size+2) HS1.out.old (by omega));go_wp2_with fail
  refine bodyPost_ret (v:=.tuple #[.agg #[.slice none 0 0,.slice none 0 0,.slice none 0 0],.int .i64 21]) ?_ rfl (a_A HG.out HBR.out);obtain⟨q0,q1,q2⟩:=HRS.out;simp[results,Tryz.results22,go_sem,q0,q1,q2]
 |true=>
 obtain⟨k1,hk1⟩:∃r,b_S b.pl nb.pl=r:=⟨_,rfl⟩;have HK:Hid (b_S (ps.map (·.rt)) (ps2.map (·.rt))=k1):=by show _=_;rw[HS1.out.bk.rt,HY.out.rt];exact hk1
 have HK1:=Lib.hid hk1;have HRB:Hid (BkR w1 w1.heap.size x2 nb ps2):=HY.out.next HS1.out.old;clear hk1;obtain⟨c0,c1,c2⟩:=HS1.out.arg.cells;obtain⟨d0,d1,d2⟩:=HN1.out.cells;go_wp2_with fail
 refine(i_y x.pl.a x.pl.n x.pl.c ps x2.pl.a x2.pl.n x2.pl.c ps2 k1 _ x.pl.h x2.pl.h (by exact HS1.out.read.pl) (by exact HRB.out.pl) HK.out).mono ?_;rintro e w2 ⟨rfl,hb2⟩;have HS2:=Lib.hid (HS1.out.next hb2);have HN2:=Lib.hid (HN1.out.below hb2);clear hb2 HS1 HN1 HRB c0 c1 c2 d0 d1 d2;cases k1 with
 |false=>
  have HG:Hid ((bk0,(21:Int))=b_H m b nb):=(p_D (fun hc=>by rw[HK1.out]at hc;cases hc.2)).symm;obtain⟨y0,y1,y2⟩:=HS2.out.res.cells;have hff:=Blk.free HS2.out.res;have HRS:=Lib.hid (a_i HS2.out.res);have HBR:=Lib.hid (a_r (g:=w.heap.size+2) HS2.out.old (by omega));go_wp2_with fail
  refine bodyPost_ret (v:=.tuple #[.agg #[.slice none 0 0,.slice none 0 0,.slice none 0 0],.int .i64 21]) ?_ rfl (a_A HG.out HBR.out);obtain⟨q0,q1,q2⟩:=HRS.out;simp[results,Tryz.results22,go_sem,q0,q1,q2]
 |true=>
 have HG:Hid (b_H m b nb=(nb,0)):=p_i HR1.out HK1.out;have HRB:Hid (BkR w2 w2.heap.size x2 nb ps2):=HY.out.next HS2.out.old;obtain⟨d0,d1,d2⟩:=HN2.out.cells;obtain⟨z1,z2,z3,z4,_⟩:=a_9 HR1.out;go_wp2_with fail
 refine(i_c x2 nb ps2 _ (by exact HRB.out) z1 z2 z4).mono ?_;rintro e w3 ⟨y,ps3,rfl,hn3⟩;have HS3:=Lib.hid (HS2.out.next hn3.old);have HN3:=Lib.hid (hn3.lower HS2.out.old);have hge:=HS2.out.old.size;obtain⟨y0,y1,y2⟩:=HS3.out.res.cells;have hff:=Blk.free HS3.out.res;have HRS:=Lib.hid (a_t HS3.out.res y);have HBR:=Lib.hid (c_H (x:=y) HS2.out.old HS2.out.res hn3 (by omega));clear hn3 HS2 HN2 HRB d0 d1 d2;go_wp2_with fail
 refine bodyPost_ret (v:=.tuple #[bkV y,.int .i64 0]) ?_ rfl ?_
 ·obtain⟨q0,q1,q2⟩:=HRS.out
  simp[results,Tryz.results22,go_sem,q0,q1,q2]
 ·rw[HG.out]
  exact⟨y,ps3,rfl,HBR.out⟩
end Pln
end Go.Proofs.YtkpnmpjnpcjohaaGreat
