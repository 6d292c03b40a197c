import Derived.Test.YtkpnmpjnpcjohaaGreatFrames
import Derived.Test.YtkpnmpjnpcjohaaGreatRouteDrivesP
set_option linter.unusedSimpArgs false
set_option linter.unusedVariables false
set_option maxHeartbeats 4000000
set_option maxRecDepth 100000
namespace Go.Proofs.YtkpnmpjnpcjohaaGreat
open ChangeShapes WideShapes ChangeAt RowKit Mem Rec FleetMath
namespace Frames
open Deep PlanMath
theorem l_H:Tryz.prog.cellsOf 37=3:=by kernel_rfl
theorem r_c:Tryz.prog.bytesOf 37=40:=by kernel_rfl
theorem o_V:Tryz.prog.cellsOf 35=1:=by kernel_rfl
def Lite{H:Type}(t:TypeId)(d:DataW H):Prop:=Light t d∨Rows.uptoBulk d≤1048576
theorem l_I{H:Type}{l:List (DataW H)}{d:DataW H}(hd:d∈l):Rows.uptoBulk d≤Rows.uptoBulkAll l:=by
 induction l with
 |nil=>cases hd
 |cons x r ih=>
  simp only[Rows.uptoBulkAll];rcases List.mem_cons.1 hd with rfl|hd
  ·omega
  ·have:=ih hd
   omega
theorem Lite.elem{H:Type}{t e:TypeId}{l m:List (DataW H)}(h:Lite t (.slice l m))(hu:Tryz.prog.underlying t=some (.slice e)){d:DataW H}(hd:d∈l):Lite e d:=by
 rcases h with h|h
 ·exact .inl (h.elem hu hd)
 ·have:=l_I hd
  simp only[Rows.uptoBulk]at h;exact .inr (by omega)
theorem Lite.field{H:Type}{t T:TypeId}{fs:Array Field}{parts:List (DataW H)}{d:DataW H}{i:Nat}(h:Lite t (.agg parts))(hu:Tryz.prog.underlying t=some (.struct fs))(hT:(fs[i]?).map (·.type)=some T)(hd:parts[i]?=some d):Lite T d:=by
 rcases h with h|h
 ·exact .inl (h.field hu hT hd)
 ·have:=l_I (List.mem_of_getElem? hd)
  simp only[Rows.uptoBulk]at h;exact .inr (by omega)
theorem Lite.size{H:Type}{t e:TypeId}{d:DataW H}{cap k:Nat}(h:Lite t d)(hu:Tryz.prog.underlying t=some (.slice e))(hi:d_q d cap)(hk:Tryz.prog.bytesOf e=k)(hk1:k≤1000):cap*k≤140737488351232:=by
 rcases h with h|h
 ·rw[← hk];exact h.size hu hi
 ·have h1:cap≤1048576:=by
   rcases hi with⟨_,rfl⟩|⟨l,m,rfl,e1⟩
   ·omega
   ·have b1:=length_le l
    have b2:=length_le m;simp only[Rows.uptoBulk]at h;omega
  have h2:cap*k≤1048576*1000:=Nat.mul_le_mul h1 hk1;omega
structure RteOk(W:World)(r:RM):Prop where
 drv:wfI r.rt.drv
 served:wfI r.rt.served
 ords:∀s∈r.rt.stops,wfI s.ord
 stops:Stps W W.heap.size r.a r.n r.rt.stops
 le:r.n≤r.c
 few:r.n*16≤140737488351232
structure PlnOk(W:World)(a:Option Addr)(n c:Nat)(l:List RM):Prop where
 plns:Plns W W.heap.size a n l
 le:n≤c
 few:c*40≤140737488351232
 each:∀r∈l,RteOk W r
section
variable {H : Type} {enc : TypeId × Value → H} {W : World}
theorem t_m{n:Nat}{cs:List Value}{y:DataW H×List MemPlace}(h:DataW.trod enc Tryz.prog W 0 (fun _=>true) true n 37 cs=some y)(hl:Lite 37 y.1):
 ∃r:RM,cs=rmL r∧RteOk W r∧∃d0 d1 d2,y.1=.agg [d0,d1,d2]∧d_q d2 r.c:=by
 obtain⟨xs,k,hx,hlen,hn,hf⟩:=b_L Tryz.underlying37 h;rw[l_H]at hlen;match cs,hlen with
 |[c0,c1,c2],_=>
  obtain⟨z0,x0,h0⟩:=hf 0 3 0 rfl;obtain⟨z1,x1,h1⟩:=hf 1 3 1 rfl;obtain⟨z2,x2,h2⟩:=hf 2 35 2 rfl;simp only[c_l,o_V]at h0 h1 h2;obtain⟨v0,e0,w0⟩:=c_b h0;obtain⟨v1,e1,w1⟩:=c_b h1;obtain⟨a,len,cap,e2,i1,i2,i3,l,i4,i5,i6⟩:=f_P (k:=2) (fun x:Stp=>[.int .i64 x.ord,.bool x.drop]) (fun x=>wfI x.ord) (fun _=>rfl) (by omega) Tryz.underlying35 l_C (fun n cs y h=>t_f h) h2;simp at e0 e1 e2;subst e0 e1 e2;rw[hx]at hl;have hlen3:xs.length=3:=hn;have hb:=(hl.field (i:=2) (T:=35) (d:=z2.1) Tryz.underlying37 rfl (by rw[List.getElem?_map,x2];rfl)).size Tryz.underlying35 i3 q_N (by omega);refine⟨⟨⟨v0,v1,l⟩,a,len,cap⟩,rfl,⟨w0,w1,i6,i4,i1,by simp only;omega⟩,z0.1,z1.1,z2.1,?_,i3⟩;rw[hx];match xs,hlen3,x0,x1,x2 with
  |[y0,y1,y2],_,e0,e1,e2=>
   simp at e0 e1 e2;rw[e0,e1,e2];rfl
theorem s_D{n:Nat}{cs:List Value}{y:DataW H×List MemPlace}(h:DataW.trod enc Tryz.prog W 0 (fun _=>true) true n 39 cs=some y)(hl:Lite 39 y.1):
 ∃(a:Option Addr) (len cap:Nat),cs=[.slice a len cap]∧∃l:List RM,PlnOk W a len cap l∧(allS (l.map (·.rt))).length≤Rows.uptoBulk y.1:=by
 obtain⟨a',len',cap',e,h1,h2,h3,l,ds,ms,h4,h5,h6,h7,h8⟩:=l_B (Lite 37) (fun l m e d hd=>by
  rw[e]at hl;exact hl.elem Tryz.underlying39 hd) (k:=3) rmL (fun r d=>RteOk W r∧∃d0 d1 d2,d=.agg [d0,d1,d2]∧d_q d2 r.c) (fun _=>rfl) (by omega) Tryz.underlying39 l_H (fun n cs y h hl=>t_m h hl) h
 have hcap:=hl.size Tryz.underlying39 h3 r_c (by omega)
 have each:∀r∈l,RteOk W r:=by
  intro r hr;obtain⟨i,hi⟩:=List.mem_iff_getElem?.1 hr;have hlt:i<ds.length:=by rw[h7,←h5];exact(List.getElem?_eq_some_iff.1 hi).1
  exact(h8 i r _ hi (List.getElem?_eq_getElem hlt)).1
 refine⟨a',len',cap',e,l,⟨⟨h4,fun r hr=>⟨(each r hr).stops,(each r hr).le,(each r hr).few⟩⟩,h1,hcap,each⟩,?_⟩
 have key:∀(l:List RM) (ds:List (DataW H)),ds.length=l.length→(∀ (i:Nat) x d,l[i]?=some x→ds[i]?=some d→RteOk W x∧∃d0 d1 d2,d=.agg [d0,d1,d2]∧d_q d2 x.c)→(allS (l.map (·.rt))).length≤Rows.uptoBulkAll ds:=by
  intro l;induction l with
  |nil=>intro ds _ _;simp[allS]
  |cons x r ih=>
   intro ds hlen hg;match ds,hlen with
   |d::dr,hlen=>
    obtain⟨ok,d0,d1,d2,e,hs⟩:=hg 0 x d rfl rfl;have h1:=ih dr (by simpa using hlen) (fun i x d hx hd=>hg (i+1) x d (by simpa using hx) (by simpa using hd))
    have h2:x.rt.stops.length≤Rows.uptoBulk d:=by
     have hle:=ok.le;have hlen2:=Stps.length ok.stops;subst e;simp only[Rows.uptoBulk,Rows.uptoBulkAll];rcases hs with⟨_,h0⟩|⟨u,v,rfl,huv⟩
     ·omega
     ·have b1:=length_le u
      have b2:=length_le v;simp only[Rows.uptoBulk];omega
    have e3:(allS ((x::r).map (·.rt))).length=x.rt.stops.length+(allS (r.map (·.rt))).length:=by simp[allS]
    rw[e3];simp only[Rows.uptoBulkAll];omega
 have hk:=key l ds (by rw[h7,h5]) h8;rcases h6 with⟨e,e2⟩|e
 ·subst e2
  simp only[Rows.uptoBulkAll]at hk;omega
 ·rw[e]
  simp only[Rows.uptoBulk];omega
end
end Frames
namespace Route
open GeoMath Geo Span Deal Keep
def FBox(u:World)(g k:Nat)(e:Int):Prop:=Blk u g 108 [.int .i64 k,.int .i64 e]
theorem FBox.cells{u:World}{g k:Nat}{e:Int}(h:FBox u g k e):u.cell? ⟨g,0,none⟩=some (.int .i64 k)∧u.cell? ⟨g,1,none⟩=some (.int .i64 e):=⟨Blk.cell h rfl,Blk.cell h rfl⟩
theorem o_W(k:Nat)(e:Int)(w:World):Calls Tryz.prog 51 #[faultV k e] w (a_y w (.bool (e==0))):=by
 go_enter Tryz.func51,Tryz.ntmps51;go_wp2
 go_ret;exact⟨rfl,(Below.refl _ _).alloc (Nat.le_refl _) _⟩
abbrev ordL(o:FleetMath.Ord):List Value:=[.int .i64 o.id,.int .i64 o.size,.int .i64 o.pick.place,.int .i64 o.pick.win.fr,.int .i64 o.pick.win.to,.int .i64 o.pick.serv,.int .i64 o.drop.place,.int .i64 o.drop.win.fr,.int .i64 o.drop.win.to,.int .i64 o.drop.serv]
theorem i_T(o:FleetMath.Ord):a_g [o]=ordL o:=rfl
theorem r_d(o:FleetMath.Ord):∀v∈ordL o,v.oneCell'=true:=by
 have:=c_f [o];rwa[i_T]at this
end Route
namespace Frames
open Deep PlanMath Keep
theorem f_Z{H:Type}{enc:TypeId×Value→H}{W:World}{r:Reach}{b0:Nat}{v:Value}{d:DataW H}{p:List MemPlace}(hv:Value.okWide Tryz.prog W r b0 55 v)(h:DataW.Trod enc Tryz.prog W 0 (fun _=>true) true 55 v d p)
 {ts:List TypeId} {ds:List (DataW H)} (hsz:(DataW.weightsEach Tryz.prog ts ds).all (·≤reachBytes)=true) {j:Nat} (ht:ts[j]?=some 55) (hd:ds[j]?=some d):
 ∃x:Wd,v=wdV x∧∃ts ds os ps,WdOk W x ts ds os∧PlnOk W x.pl.a x.pl.n x.pl.c ps:=by
 obtain⟨x,rfl,zs,vs,rs,ok⟩:=m_B hv h hsz ht hd;obtain⟨fuel,hf⟩:=h;obtain⟨xs,k,hx,hl,hlen,hfs⟩:=b_L Tryz.underlying55 hf;simp only at hx;subst hx;have hw:=Light.of hsz ht hd;obtain⟨z4,x4,h4⟩:=hfs 4 39 4 rfl;have hlt:=hw.field (i:=4) (T:=39) (d:=z4.1) Tryz.underlying55 rfl (by simp[x4]);simp only[show Tryz.prog.cellsOf 39=1 by kernel_rfl]at h4;obtain⟨a,n,c,e,l,ok2,_⟩:=s_D h4 (.inl hlt);simp[Value.cells]at e;obtain⟨rfl,rfl,rfl⟩:=e;exact⟨x,rfl,zs,vs,rs,l,ok,ok2⟩
end Frames
namespace Keep
open GeoMath PlanMath Geo Deal
theorem h_r(x:Wd)(ps:List RM)(u:World)(hp:Plns u u.heap.size x.pl.a x.pl.n ps):
 Calls Tryz.prog 26 #[wdV x] u fun e u'=>(e=.returned (.bool false)∨e=.returned (.bool true))∧Below u.heap.size u u':=by
 have hpn:x.pl.n≤9223372036854775807:=Recs.le hp.rows;have HP:=Lib.hid hp;have HB0:Hid (Below u.heap.size u (u.alloc (.cells #[.int .i64 x.n,x.ts.v,x.ds.v,x.os.v,x.pl.v] 55))):=(Below.refl _ _).alloc (Nat.le_refl _) _;have HW0:=Lib.hid (WBox.new u x);clear hp;go_enter Tryz.func26,Tryz.ntmps26;go_upto_region 1 with fail
 obtain⟨u1,hu1⟩:∃v,u.alloc (.cells #[.int .i64 x.n,x.ts.v,x.ds.v,x.os.v,x.pl.v] 55)=v:=⟨_,rfl⟩;rw[hu1]at HB0 HW0
 (try rw[hu1])
 clear hu1;go_wp2_with fail
 go_loopw [3,4] (fun sv iv wr=>∃(k:Nat) (s:Int),k≤x.pl.n∧sv=.int .i64 s∧iv=.int .i64 (k:Int)∧Hid (Below u1.heap.size u1 wr)) (fun _ iv _=>x.pl.n-(intOf iv).toNat)
 case atStart=>exact⟨0,0,Nat.zero_le _,rfl,rfl,Below.refl _ _⟩
 case round=>
  obtain⟨k,s,hk,rfl,rfl,HB⟩:=hrel;have HBW:Hid (Below u.heap.size u wr):=HB0.out.trans (HB.out.mono HB0.out.size);obtain⟨x0,x1,x2,x3,x4⟩:=(HW0.out.below HB.out).cells;by_cases hlt:k<x.pl.n
  ·obtain⟨pb,off,z1,hPA,_,hz1,_,c0,c1,c2,_⟩:=(HP.out.keep HBW.out).at_ hlt
   have x4':wr.cell? ⟨u.heap.size,4,none⟩=some (.slice (some ⟨pb,off,none⟩) x.pl.n x.pl.c):=by
    rw[x4];show some (Value.slice x.pl.a x.pl.n x.pl.c)=_;rw[hPA]
   have hkk:(k:Int)<(x.pl.n:Int):=by omega
   obtain⟨s',hs⟩:∃z,IntKind.i64.wrap (s+(z1.n:Int))=z:=⟨_,rfl⟩;clear x4 hz1;by_cases h40:(40:Int)<s'
   ·go_wp2_with fail
    go_ret;exact⟨by first|exact .inl rfl|exact .inr rfl,HBW.out⟩
   ·go_wp2_with fail
    go_roundw
    case rel=>exact⟨k+1,s',by omega,by first|rfl|rw[hs],by go_num,HB⟩
    case measure=>simp[intOf];omega
  ·obtain⟨b16,h16⟩:∃b,decide ((x.os.n:Int)≤16)=b:=⟨_,rfl⟩
   obtain⟨b8,h8⟩:∃b,decide ((x.ds.n:Int)≤8)=b:=⟨_,rfl⟩;cases b16<;>cases b8
   all_goals
    simp only[decide_eq_true_eq,decide_eq_false_iff_not]at h16 h8;have e16:=h16;have e8:=h8;go_wp2_with fail
    go_ret;exact⟨by first|exact .inl rfl|exact .inr rfl,HBW.out⟩
end Keep
end Go.Proofs.YtkpnmpjnpcjohaaGreat
