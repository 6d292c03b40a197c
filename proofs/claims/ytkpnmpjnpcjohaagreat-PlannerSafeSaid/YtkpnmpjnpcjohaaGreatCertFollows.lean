import Derived.Test.YtkpnmpjnpcjohaaGreatCertSmalls
set_option linter.unusedSimpArgs false
set_option linter.unusedVariables false
set_option maxHeartbeats 8000000
set_option maxRecDepth 100000
namespace Go.Proofs.YtkpnmpjnpcjohaaGreat
open ChangeShapes WideShapes ChangeAt RowKit Mem GeoMath FleetMath PlanMath CertMath Rec Geo Span Deal Route Plan
namespace Cert
abbrev legV(st:St):Value:=.agg #[.int .i64 st.at_,.int .i64 st.left,.int .i64 st.load]
def LBox(u:World)(g:Nat)(st:St):Prop:=Blk u g 248 [.int .i64 st.at_,.int .i64 st.left,.int .i64 st.load]
theorem LBox.below{u u':World}{g:Nat}{st:St}(h:LBox u g st)(hb:Below u.heap.size u u'):LBox u' g st:=Blk.below h hb (Blk.lt h)
theorem LBox.cells{u:World}{g:Nat}{st:St}(h:LBox u g st):u.cell? ⟨g,0,none⟩=some (.int .i64 st.at_)∧u.cell? ⟨g,1,none⟩=some (.int .i64 st.left)∧u.cell? ⟨g,2,none⟩=some (.int .i64 st.load):=⟨Blk.cell h rfl,Blk.cell h rfl,Blk.cell h rfl⟩
abbrev leg0:St:=⟨0,0,0⟩
abbrev putL(u:World)(g:Nat)(st:St):World:=((u.setCell ⟨g,0,none⟩ (.int .i64 st.at_)).setCell ⟨g,1,none⟩ (.int .i64 st.left)).setCell ⟨g,2,none⟩ (.int .i64 st.load)
theorem c_k{u:World}{g:Nat}{s0:St}(h:LBox u g s0)(st:St):LBox (putL u g st) g st:=by
 unfold LBox at h ⊢;exact((h.put 0 (.int .i64 st.at_)).put 1 (.int .i64 st.left)).put 2 (.int .i64 st.load)
theorem h_c{B:Nat}{w u:World}{g:Nat}(h:Below B w u)(hg:B≤g)(st:St):Below B w (putL u g st):=((h.setCell hg _).setCell hg _).setCell hg _
def h_N:Except Int St→Value
 | .error e=>.tuple #[legV leg0,.int .i64 e]
 | .ok st=>.tuple #[legV st,.int .i64 0]
theorem b_W{w w':World}{r:Except Int St}{e:Int}(h:r=.error e)(hb:Below w.heap.size w w'):a_y w (h_N r) (.returned (.tuple #[legV leg0,.int .i64 e])) w':=by subst h;exact⟨rfl,hb⟩
theorem j_6{w w':World}{r:Except Int St}{st:St}(h:r=.ok st)(hb:Below w.heap.size w w'):a_y w (h_N r) (.returned (.tuple #[legV st,.int .i64 0])) w':=by subst h;exact⟨rfl,hb⟩
structure FS(w:World)(q A:Option Addr)(n c:Nat)(A2:Option Addr)(n2 c2:Nat)(st:St)(d:Drv)(x:Vis)(u:World):Prop where
 old:Below w.heap.size w u
 box:FlBox u w.heap.size q A n c A2 n2 c2
 leg:LBox u (w.heap.size+1) st
 drv:DBox u (w.heap.size+2) d
 vis:VBox u (w.heap.size+3) x
 res:LBox u (w.heap.size+4) leg0
section
variable {w u u' : World} {q A A2 : Option Addr} {n c n2 c2 : Nat} {st : St} {d : Drv} {x : Vis}
theorem FS.next(h:FS w q A n c A2 n2 c2 st d x u)(hb:Below u.heap.size u u'):FS w q A n c A2 n2 c2 st d x u':=⟨h.old.trans (hb.mono h.old.size),h.box.below hb,h.leg.below hb,h.drv.below hb,h.vis.below hb,h.res.below hb⟩
theorem FS.size(h:FS w q A n c A2 n2 c2 st d x u):w.heap.size+5≤u.heap.size:=Blk.lt h.res
theorem FS.drew(h:FS w q A n c A2 n2 c2 st d x u):FS w q A n c A2 n2 c2 st d x u.drew:=h.next (Below.refl _ _).drew
theorem FS.drewN(h:FS w q A n c A2 n2 c2 st d x u)(k:Nat):FS w q A n c A2 n2 c2 st d x (u.drewN k):=h.next (a_l (Below.refl _ _) k)
theorem FS.alloc(h:FS w q A n c A2 n2 c2 st d x u)(o:Obj):FS w q A n c A2 n2 c2 st d x (u.alloc o):=h.next ((Below.refl _ _).alloc (Nat.le_refl _) _)
theorem FS.bad(h:FS w q A n c A2 n2 c2 st d x u)(s:St):Below w.heap.size w (putL u (w.heap.size+4) s):=h_c h.old (by omega) s
theorem FS.put(h:FS w q A n c A2 n2 c2 st d x u){b:Nat}(hb:w.heap.size+5≤b)(i:Nat)(v:Value):FS w q A n c A2 n2 c2 st d x (u.setCell ⟨b,i,none⟩ v):=
 ⟨h.old.setCell (Nat.le_trans (by omega) hb) _,(Below.heap_setCell u _ _ _ (by show w.heap.size≠b;omega)).trans h.box,(Below.heap_setCell u _ _ _ (by show w.heap.size+1≠b;omega)).trans h.leg,(Below.heap_setCell u _ _ _ (by show w.heap.size+2≠b;omega)).trans h.drv,(Below.heap_setCell u _ _ _ (by show w.heap.size+3≠b;omega)).trans h.vis,(Below.heap_setCell u _ _ _ (by show w.heap.size+4≠b;omega)).trans h.res⟩
theorem FS.puts(h:FS w q A n c A2 n2 c2 st d x u){g:Nat}(hb:w.heap.size+5≤g)(si:Site):FS w q A n c A2 n2 c2 st d x (putS u g si):=((((h.put hb _ _).put hb _ _).put hb _ _).put hb _ _)
abbrev FW(w:World)(q A:Option Addr)(n c:Nat)(A2:Option Addr)(n2 c2:Nat)(st:St)(d:Drv)(x:Vis):World:=
 ((((w.alloc (.cells #[.pointer q,.slice A n c,.slice A2 n2 c2] 163)).alloc (.cells #[.int .i64 st.at_,.int .i64 st.left,.int .i64 st.load] 248)).alloc (.cells #[.int .i64 d.id,.int .i64 d.room,.int .i64 d.home,.int .i64 d.win.fr,.int .i64 d.win.to,.bool d.retired] 33)).alloc (.cells #[.int .i64 x.stop.ord,.bool x.stop.drop,.int .i64 x.arrive,.int .i64 x.start,.int .i64 x.leave,.int .i64 x.load] 245)).alloc (.cells #[.int .i64 0,.int .i64 0,.int .i64 0] 248)
theorem FS.start:FS w q A n c A2 n2 c2 st d x (FW w q A n c A2 n2 c2 st d x):=by
 obtain⟨w1,h1⟩:∃u,w.alloc (.cells #[.pointer q,.slice A n c,.slice A2 n2 c2] 163)=u:=⟨_,rfl⟩;have f1:FlBox w1 w.heap.size q A n c A2 n2 c2:=by rw[← h1];exact Blk.new w _ _
 have s1:w1.heap.size=w.heap.size+1:=by rw[← h1];simp
 have b1:Below w.heap.size w w1:=by rw[← h1];exact(Below.refl _ _).alloc (Nat.le_refl _) _
 obtain⟨w2,h2⟩:∃u,w1.alloc (.cells #[.int .i64 st.at_,.int .i64 st.left,.int .i64 st.load] 248)=u:=⟨_,rfl⟩;have f2:LBox w2 w1.heap.size st:=by rw[← h2];exact Blk.new w1 _ _
 have s2:w2.heap.size=w1.heap.size+1:=by rw[← h2];simp
 have b2:Below w1.heap.size w1 w2:=by rw[← h2];exact(Below.refl _ _).alloc (Nat.le_refl _) _
 obtain⟨w3,h3⟩:∃u,w2.alloc (.cells #[.int .i64 d.id,.int .i64 d.room,.int .i64 d.home,.int .i64 d.win.fr,.int .i64 d.win.to,.bool d.retired] 33)=u:=⟨_,rfl⟩;have f3:DBox w3 w2.heap.size d:=by rw[← h3];exact Blk.new w2 _ _
 have s3:w3.heap.size=w2.heap.size+1:=by rw[← h3];simp
 have b3:Below w2.heap.size w2 w3:=by rw[← h3];exact(Below.refl _ _).alloc (Nat.le_refl _) _
 obtain⟨w4,h4⟩:∃u,w3.alloc (.cells #[.int .i64 x.stop.ord,.bool x.stop.drop,.int .i64 x.arrive,.int .i64 x.start,.int .i64 x.leave,.int .i64 x.load] 245)=u:=⟨_,rfl⟩;have f4:VBox w4 w3.heap.size x:=by rw[← h4];exact Blk.new w3 _ _
 have s4:w4.heap.size=w3.heap.size+1:=by rw[← h4];simp
 have b4:Below w3.heap.size w3 w4:=by rw[← h4];exact(Below.refl _ _).alloc (Nat.le_refl _) _
 obtain⟨w5,h5⟩:∃u,w4.alloc (.cells #[.int .i64 0,.int .i64 0,.int .i64 0] 248)=u:=⟨_,rfl⟩;have f5:LBox w5 w4.heap.size leg0:=by rw[← h5];exact Blk.new w4 _ _
 have b5:Below w4.heap.size w4 w5:=by rw[← h5];exact(Below.refl _ _).alloc (Nat.le_refl _) _
 have e2:w1.heap.size=w.heap.size+1:=s1;have e3:w2.heap.size=w.heap.size+2:=by omega
 have e4:w3.heap.size=w.heap.size+3:=by omega
 have e5:w4.heap.size=w.heap.size+4:=by omega
 have e:FW w q A n c A2 n2 c2 st d x=w5:=by rw[← h5,←h4,←h3,←h2,←h1]
 rw[e];refine⟨(((b1.trans (b2.mono (by omega))).trans (b3.mono (by omega))).trans (b4.mono (by omega))).trans (b5.mono (by omega)),(((f1.below b2).below b3).below b4).below b5,?_,?_,?_,?_⟩
 ·rw[← e2];exact((f2.below b3).below b4).below b5
 ·rw[← e3];exact(f3.below b4).below b5
 ·rw[← e4];exact f4.below b5
 ·rw[← e5];exact f5
end
section
variable {m : Mp} {d : Drv} {os : List FleetMath.Ord} {seen : List Stp} {st : St} {x : Vis} {o : FleetMath.Ord}
theorem e_N(h:find os x.stop.ord=some o)(h1:¬(x.stop.drop=true∧Stp.mk x.stop.ord false∉seen))(h2:¬(x.load≠a_k o x.stop st.load∨d.room<a_k o x.stop st.load))
 (h3:x.arrive≠st.left+time m st.at_ (a_e o x.stop).place∨d_n (a_e o x.stop) x=false∨d.win.to<x.leave):a_O m d os seen st x=.error 15:=by
 cases hb:a_3 (a_e o x.stop).win (st.left+time m st.at_ (a_e o x.stop).place)with
 |none=>exact k_d h h1 h2 hb
 |some b=>
  refine i_F h h1 h2 hb ?_;by_cases ha:x.arrive=st.left+time m st.at_ (a_e o x.stop).place
  ·rcases h3 with h3|h3|h3
   ·exact absurd ha h3
   ·rw[← ha]at hb
    rw[d_o hb]at h3;by_cases hs:x.start=b
    ·by_cases hl:x.leave=b+(a_e o x.stop).serv
     ·rw[decide_eq_true hs,decide_eq_true hl]at h3;cases h3
     ·exact .inr (.inr (.inl hl))
    ·exact .inr (.inl hs)
   ·by_cases hl:x.leave=b+(a_e o x.stop).serv
    ·exact .inr (.inr (.inr (by rw[← hl];exact h3)))
    ·exact .inr (.inr (.inl hl))
  ·exact .inl ha
theorem j_7(h:find os x.stop.ord=some o)(h1:¬(x.stop.drop=true∧Stp.mk x.stop.ord false∉seen))(h2:¬(x.load≠a_k o x.stop st.load∨d.room<a_k o x.stop st.load))
 (ha:x.arrive=st.left+time m st.at_ (a_e o x.stop).place) (hs:d_n (a_e o x.stop) x=true) (ht:¬d.win.to<x.leave):a_O m d os seen st x=.ok ⟨(a_e o x.stop).place,x.leave,a_k o x.stop st.load⟩:=by
 cases hb:a_3 (a_e o x.stop).win x.arrive with
 |none=>rw[f_c hb]at hs;cases hs
 |some b=>
  rw[d_o hb,Bool.and_eq_true,decide_eq_true_eq,decide_eq_true_eq]at hs;rw[ha]at hb;refine o_j h h1 h2 hb ?_;rintro(h3|h3|h3|h3)
  ·exact h3 ha
  ·exact h3 hs.1
  ·exact h3 hs.2
  ·rw[← hs.2]at h3;exact ht h3
end
theorem s_n(base b n:Nat)(l:List Int)(a c t:Int)(w:World)(h:MapAt w 92 base b n l)(hn:n≤12)(ht:time ⟨n,l⟩ a c=t):
 Calls Tryz.prog 192 #[.pointer (some ⟨b,0,none⟩),.int .i64 a,.int .i64 c] w fun e w'=>e=.returned (.tuple #[.int .i64 t,.bool (b_k n a && b_k n c)])∧∃m,w'=w.drewN m:=by
 have:=i_K base b n l a c w h hn;rw[timeV_time.1,ht]at this;exact this
theorem j_8(base bm mn:Nat)(ml:List Int)(A:Option Addr)(n c:Nat)(A2:Option Addr)(n2 c2:Nat)(os:List FleetMath.Ord)(st:St)(d:Drv)(x:Vis)(A':Option Addr)(k c':Nat)(seen:List Stp)(w:World)
 (hm:MapAt w 92 base bm mn ml) (hmn:mn≤12) (hmap:IsMap mn ml) (ho:Ords w w.heap.size A2 n2 os) (hs:Stps w w.heap.size A' k seen) (hok:∀o∈os,OrdOk ⟨mn,ml⟩ o)
 (lf1:0≤st.left) (lf2:st.left≤2000000) (ll1:-1000000≤st.load) (ll2:st.load≤1000000):
 Calls Tryz.prog 186 #[d_m (some ⟨bm,0,none⟩) A n c A2 n2 c2,legV st,drvV d,visV x,.slice A' k c'] w (a_y w (h_N (a_O ⟨mn,ml⟩ d os seen st x))):=by
 have HM:=Lib.hid hm;have HMAP:=Lib.hid hmap;have HO:=Lib.hid ho;have HST:=Lib.hid hs;have HOK:=Lib.hid hok;obtain⟨r,hr⟩:∃r,a_O ⟨mn,ml⟩ d os seen st x=r:=⟨_,rfl⟩;rw[hr];have HR:=Lib.hid hr;obtain⟨o,ok,hfv,hf1,hf0⟩:=h_C (find os x.stop.ord);have HFV:=Lib.hid hfv;have HF1:=Lib.hid hf1;have HF0:=Lib.hid hf0;have S0':Hid (FS w (some ⟨bm,0,none⟩) A n c A2 n2 c2 st d x (FW w (some ⟨bm,0,none⟩) A n c A2 n2 c2 st d x)):=FS.start;clear hm hmap ho hs hok hr hfv hf1 hf0;go_enter Tryz.func186,Tryz.ntmps186;go_upto_region 1 with fail
 obtain⟨u0,hu0⟩:∃u,FW w (some ⟨bm,0,none⟩) A n c A2 n2 c2 st d x=u:=⟨_,rfl⟩;have S0:Hid (FS w (some ⟨bm,0,none⟩) A n c A2 n2 c2 st d x u0):=by rw[← hu0];exact S0'
 unfold FW at hu0;rw[hu0];clear hu0 S0';have y2:=S0.out.box.cells.2.2;have v0:=S0.out.vis.cells.1;go_wp2_with fail
 refine(m_q A2 n2 c2 os x.stop.ord _ _ (by exact Recs.more (Recs.keep HO.out S0.out.old) S0.out.old.size) rfl).mono ?_;rintro e w1 ⟨rfl,hb⟩;rw[HFV.out];have S1:=Lib.hid ((S0.out.next hb).alloc (.cells #[.int .i64 o.id,.int .i64 o.size,.int .i64 o.pick.place,.int .i64 o.pick.win.fr,.int .i64 o.pick.win.to,.int .i64 o.pick.serv,.int .i64 o.drop.place,.int .i64 o.drop.win.fr,.int .i64 o.drop.win.to,.int .i64 o.drop.serv] 31));have HX1:Hid (OBox (w1.alloc (.cells #[.int .i64 o.id,.int .i64 o.size,.int .i64 o.pick.place,.int .i64 o.pick.win.fr,.int .i64 o.pick.win.to,.int .i64 o.pick.serv,.int .i64 o.drop.place,.int .i64 o.drop.win.fr,.int .i64 o.drop.win.to,.int .i64 o.drop.serv] 31)) w1.heap.size o):=Blk.new w1 _ _;have HGO:Hid (w.heap.size+5≤w1.heap.size):=(S0.out.next hb).size;clear hb y2 v0 S0 HFV;obtain⟨w2,hw2⟩:∃u,w1.alloc (.cells #[.int .i64 o.id,.int .i64 o.size,.int .i64 o.pick.place,.int .i64 o.pick.win.fr,.int .i64 o.pick.win.to,.int .i64 o.pick.serv,.int .i64 o.drop.place,.int .i64 o.drop.win.fr,.int .i64 o.drop.win.to,.int .i64 o.drop.serv] 31)=u:=⟨_,rfl⟩;obtain⟨go,hgo⟩:∃g,w1.heap.size=g:=⟨_,rfl⟩;go_upto_region 2 with fail
 rw[hgo]at HX1 HGO;rw[hw2]at S1 HX1;clear hw2 hgo;cases ok with
 |false=>
  have HD:Hid (r=.error 8):=by show r=_;rw[← HR.out];exact k_b (HF0.out rfl)
  have HB:=Lib.hid (S1.out.bad leg0);have hcs:=a_c (w.heap.size+4);have hfs:=a_d;have hff:=Blk.free S1.out.res;obtain⟨x0,x1,x2⟩:=S1.out.res.cells;have HRS:=Lib.hid (c_k S1.out.res leg0).cells;go_wp2_with fail
  refine bodyPost_ret (v:=.tuple #[legV leg0,.int .i64 8]) ?_ rfl (b_W HD.out HB.out);obtain⟨r0,r1,r2⟩:=HRS.out;simp[results,Tryz.results186,go_sem,r0,r1,r2]
 |true=>
 have HFO:=Lib.hid (HF1.out rfl);have HKO:=Lib.hid (HOK.out o (c_d HFO.out).1);clear HF1 HF0 HOK;obtain⟨t2,ht2⟩:∃b,decide (Stp.mk x.stop.ord false∈seen)=b:=⟨_,rfl⟩;have T2:=Lib.hid ht2;clear ht2;obtain⟨y0,y1⟩:w2.cell? ⟨w.heap.size+3,0,none⟩=some (.int .i64 x.stop.ord)∧w2.cell? ⟨w.heap.size+3,1,none⟩=some (.bool x.stop.drop):=⟨S1.out.vis.cells.1,S1.out.vis.cells.2.1⟩;go_upto_region 4 with fail
 go_cut [31] (fun bv wx=>∃t3:Bool,bv=.bool t3∧Hid (t3=true→x.stop.drop=true∧t2=false)∧Hid (t3=false→x.stop.drop=true→t2=true)∧Hid (FS w (some ⟨bm,0,none⟩) A n c A2 n2 c2 st d x wx)∧Hid (OBox wx go o))
 case first=>
  cases hsd:x.stop.drop with
  |false=>
   rw[hsd]at y1;go_wp2_with fail
   go_meet
   exact⟨false,rfl,fun h=>(by cases h),fun _ h=>(by rw[hsd]at h;cases h),S1,HX1⟩
  |true=>
   rw[hsd]at y1;go_wp2_with fail
   refine(c_D A' k c' seen ⟨x.stop.ord,false⟩ _ t2 (by exact Recs.more (Recs.keep HST.out S1.out.old) S1.out.old.size) T2.out).mono ?_;rintro e w3 ⟨rfl,hb⟩;have S3:=Lib.hid (S1.out.next hb);have HX3:=Lib.hid (HX1.out.below hb);clear hb;go_wp2_with fail
   go_meet
   exact⟨!t2,rfl,fun h=>⟨hsd,by simpa using h⟩,fun h _=>by simpa using h,S3,HX3⟩
 case rest=>
 obtain⟨t3,rfl,HT3,HT3n,S3,HX3⟩:=hcut;obtain⟨w3,rfl⟩:∃u,u=wc:=⟨_,rfl⟩;clear S1 HX1 y0 y1;cases t3 with
 |true=>
  have HF17:=Lib.hid (HT3.out (by trivial));have HD:Hid (r=.error 17):=by show r=_;rw[← HR.out];exact i_E HFO.out HF17.out.1 (of_decide_eq_false (by rw[T2.out];exact HF17.out.2))
  have HB:=Lib.hid (S3.out.bad leg0);have hcs:=a_c (w.heap.size+4);have hfs:=a_d;have hff:=Blk.free S3.out.res;obtain⟨x0,x1,x2⟩:=S3.out.res.cells;have HRS:=Lib.hid (c_k S3.out.res leg0).cells;go_wp2_with fail
  refine bodyPost_ret (v:=.tuple #[legV leg0,.int .i64 17]) ?_ rfl (b_W HD.out HB.out);obtain⟨r0,r1,r2⟩:=HRS.out;simp[results,Tryz.results186,go_sem,r0,r1,r2]
 |false=>
 have HFST:Hid (¬(x.stop.drop=true∧Stp.mk x.stop.ord false∉seen)):=fun h=>h.2 (of_decide_eq_true (by rw[T2.out];exact HT3n.out (by trivial) h.1));clear HT3 HT3n T2;obtain⟨sz1,sz2⟩:=HKO.out.size;obtain⟨o0,o1,o2,o3,o4,o5,o6,o7,o8,o9⟩:=HX3.out.cells;have l2:=S3.out.leg.cells.2.2;go_upto_region 6 with fail
 go_cut [14,15] (fun sv lv wx=>∃gs,sv=.pointer (some ⟨gs,0,none⟩)∧lv=.int .i64 (st.load+o.size)∧Hid (w.heap.size+5≤gs)∧Hid (gs≠go)∧Hid (FS w (some ⟨bm,0,none⟩) A n c A2 n2 c2 st d x wx)∧Hid (OBox wx go o)∧Hid (SBox wx gs o.pick))
 case first=>
  have HCA:Hid (∀ ob,(w3.alloc ob).cell? ⟨go,1,none⟩=some (.int .i64 o.size)∧(w3.alloc ob).cell? ⟨go,2,none⟩=some (.int .i64 o.pick.place)∧(w3.alloc ob).cell? ⟨go,3,none⟩=some (.int .i64 o.pick.win.fr)∧(w3.alloc ob).cell? ⟨go,4,none⟩=some (.int .i64 o.pick.win.to)∧(w3.alloc ob).cell? ⟨go,5,none⟩=some (.int .i64 o.pick.serv)∧(w3.alloc ob).cell? ⟨w.heap.size+1,2,none⟩=some (.int .i64 st.load)):=fun ob=>by
   have hb:Below w3.heap.size w3 (w3.alloc ob):=(Below.refl _ _).alloc (Nat.le_refl _) _;obtain⟨_,h1,h2,h3,h4,h5,_⟩:=(HX3.out.below hb).cells;exact⟨h1,h2,h3,h4,h5,(S3.out.leg.below hb).cells.2.2⟩
  have k1:=fun ob=>(HCA.out ob).1;have k2:=fun ob=>(HCA.out ob).2.1;have k3:=fun ob=>(HCA.out ob).2.2.1;have k4:=fun ob=>(HCA.out ob).2.2.2.1;have k5:=fun ob=>(HCA.out ob).2.2.2.2.1;have k6:=fun ob=>(HCA.out ob).2.2.2.2.2;go_region
  all_goals
   go_wp2_with fail
   go_meet
   exact⟨_,rfl,rfl,S3.out.size,Nat.ne_of_gt (Blk.lt HX3.out),(S3.out.alloc _).drew,(HX3.out.below ((Below.refl _ _).alloc (Nat.le_refl _) _)).below (Below.refl _ _).drew,Blk.new w3 _ _⟩
 case rest=>
 obtain⟨gs,rfl,rfl,HGS,HNE,S4,HX4,HY4⟩:=hcut;obtain⟨w4,rfl⟩:∃u,u=wc:=⟨_,rfl⟩;clear S3 HX3 l2 o0 o1 o2 o3 o4 o5 o6 o7 o8 o9;have l2:=S4.out.leg.cells.2.2;obtain⟨o0,o1,o2,o3,o4,o5,o6,o7,o8,o9⟩:=HX4.out.cells;obtain⟨z0,z1,z2,z3⟩:=HY4.out.cells;have y1:w4.cell? ⟨w.heap.size+3,1,none⟩=some (.bool x.stop.drop):=S4.out.vis.cells.2.1;obtain⟨si,hsi⟩:∃z,a_e o x.stop=z:=⟨_,rfl⟩;have HSI:=Lib.hid hsi;obtain⟨ld,hld⟩:∃z,a_k o x.stop st.load=z:=⟨_,rfl⟩;have HLD:=Lib.hid hld;have hsv:0≤si.serv∧si.serv≤1000000:=by rw[← hsi];exact f_O HKO.out x.stop
 obtain⟨sv1,sv2⟩:=hsv;clear hsi hld;go_upto_if 54 with fail
 go_cut [15] (fun lv wx=>lv=.int .i64 ld∧Hid (FS w (some ⟨bm,0,none⟩) A n c A2 n2 c2 st d x wx)∧Hid (SBox wx gs si))
 case first=>
  cases hsd:x.stop.drop with
  |false=>
   have h1:st.load+o.size=ld:=by rw[← HLD.out];unfold a_k;rw[hsd];rfl
   have h2:o.pick=si:=by rw[← HSI.out];unfold a_e;rw[hsd];rfl
   have HY5:Hid (SBox w4 gs si):=by rw[← h2];exact HY4.out
   rw[hsd]at y1;clear h2;go_wp2_with fail
   go_meet
   exact⟨by rw[h1],S4,HY5⟩
  |true=>
   have h1:st.load-o.size=ld:=by rw[← HLD.out];unfold a_k;rw[hsd];rfl
   have h2:o.drop=si:=by rw[← HSI.out];unfold a_e;rw[hsd];rfl
   rw[hsd]at y1;have hcs:=a_c gs;have hfs:=a_d;have hff:=Blk.free HY4.out;have HS5:=Lib.hid (S4.out.puts HGS.out o.drop).drew
   have HY5:Hid (SBox (putS w4 gs o.drop).drew gs si):=by
    have:=l_5 HY4.out o.drop;rw[h2]at this ⊢;exact this
   have hca:=b_7 HNE.out;have hcb:=b_7 (g:=gs) (h:=w.heap.size+1) (by have:=HGS.out;omega);clear h2;go_wp2_with fail
   go_region
   all_goals
    go_wp2_with fail
    go_meet
    exact⟨rfl,HS5,HY5⟩
 case rest=>
 obtain⟨rfl,S5,HY5⟩:=hcut;obtain⟨w5,rfl⟩:∃u,u=wc:=⟨_,rfl⟩;clear S4 HX4 HY4 l2 o0 o1 o2 o3 o4 o5 o6 o7 o8 o9 z0 z1 z2 z3 y1 sz1 sz2;obtain⟨tt,htt⟩:∃t,time ⟨mn,ml⟩ st.at_ si.place=t:=⟨_,rfl⟩;have HTT:=Lib.hid htt;obtain⟨tb1,tb2⟩:=b_1 HMAP.out st.at_ si.place;rw[htt]at tb1 tb2;obtain⟨z0,z1,z2,z3⟩:=HY5.out.cells;obtain⟨l0,l1,l2⟩:=S5.out.leg.cells;have f0:=S5.out.box.cells.1;clear htt;go_wp2_with fail
 refine(s_n base bm mn ml st.at_ si.place tt _ (by exact HM.out.keep S5.out.old (Nat.le_refl _)) hmn HTT.out).mono ?_;rintro e w6' ⟨rfl,nq,hw6⟩;obtain⟨w6,h6⟩:∃u,w5.drewN nq=u:=⟨_,rfl⟩;rw[h6]at hw6;subst hw6;have S6:Hid (FS w (some ⟨bm,0,none⟩) A n c A2 n2 c2 st d x w6'):=by rw[← h6];exact S5.out.drewN nq
 have HY6:Hid (SBox w6' gs si):=by rw[← h6];exact HY5.out
 obtain⟨bq,hbq⟩:∃b,(b_k mn st.at_ && b_k mn si.place)=b:=⟨_,rfl⟩;rw[hbq];clear h6 hbq S5 HY5 z0 z1 z2 z3 l0 l1 l2 f0;obtain⟨z0,z1,z2,z3⟩:=HY6.out.cells;obtain⟨l0,l1,l2⟩:=S6.out.leg.cells;obtain⟨v0,v1,v2,v3,v4,v5⟩:=S6.out.vis.cells;obtain⟨d0,d1,d2,d3,d4,d5⟩:=S6.out.drv.cells;by_cases hload:x.load≠a_k o x.stop st.load∨d.room<a_k o x.stop st.load
 ·have HD:Hid (r=.error 14):=by show r=_;rw[← HR.out];exact k_c HFO.out HFST.out hload
  rw[HLD.out]at hload;have HB:=Lib.hid (S6.out.bad leg0);have hcs:=a_c (w.heap.size+4);have hfs:=a_d;have hff:=Blk.free S6.out.res;obtain⟨x0,x1,x2⟩:=S6.out.res.cells;have HRS:=Lib.hid (c_k S6.out.res leg0).cells;by_cases h1:x.load=ld
  ·have h2:d.room<ld:=by rcases hload with h|h;exact absurd h1 h;exact h
   have e1:(x.load != ld)=false:=by simpa using h1
   clear hload h1;go_wp2_with fail
   refine bodyPost_ret (v:=.tuple #[legV leg0,.int .i64 14]) ?_ rfl (b_W HD.out HB.out);obtain⟨r0,r1,r2⟩:=HRS.out;simp[results,Tryz.results186,go_sem,r0,r1,r2]
  ·have e1:(x.load != ld)=true:=by simpa using h1
   clear hload h1;go_wp2_with fail
   refine bodyPost_ret (v:=.tuple #[legV leg0,.int .i64 14]) ?_ rfl (b_W HD.out HB.out);obtain⟨r0,r1,r2⟩:=HRS.out;simp[results,Tryz.results186,go_sem,r0,r1,r2]
 have HLOAD:=Lib.hid hload;rw[HLD.out]at hload;have h1:x.load=ld:=Decidable.not_not.1 fun e=>hload (.inl e);have h2:¬d.room<ld:=fun e=>hload (.inr e);have e1:(x.load != ld)=false:=by simpa using h1
 clear hload h1;by_cases harr:x.arrive=st.left+tt
 case neg=>
  have HD:Hid (r=.error 15):=by show r=_;rw[← HR.out];exact e_N HFO.out HFST.out HLOAD.out (.inl (by rw[HSI.out,HTT.out];exact harr))
  have e2:(x.arrive != st.left+tt)=true:=by simpa using harr
  have HB:=Lib.hid (S6.out.bad leg0);have hcs:=a_c (w.heap.size+4);have hfs:=a_d;have hff:=Blk.free S6.out.res;obtain⟨x0,x1,x2⟩:=S6.out.res.cells;have HRS:=Lib.hid (c_k S6.out.res leg0).cells;clear harr;go_wp2_with fail
  refine bodyPost_ret (v:=.tuple #[legV leg0,.int .i64 15]) ?_ rfl (b_W HD.out HB.out);obtain⟨r0,r1,r2⟩:=HRS.out;simp[results,Tryz.results186,go_sem,r0,r1,r2]
 have HARR:=Lib.hid harr;have e2:(x.arrive != st.left+tt)=false:=by simpa using harr
 clear harr;obtain⟨sv,hsv⟩:∃b,d_n si x=b:=⟨_,rfl⟩;have HSV:=Lib.hid hsv;clear hsv;go_wp2_with fail
 refine(k_h si x sv _ sv1 sv2 HSV.out).mono ?_;rintro e w7 ⟨rfl,hb⟩;have S7:=Lib.hid (S6.out.next hb);have HY7:=Lib.hid (HY6.out.below hb);clear hb S6 HY6 z0 z1 z2 z3 l0 l1 l2 v0 v1 v2 v3 v4 v5 d0 d1 d2 d3 d4 d5;obtain⟨z0,z1,z2,z3⟩:=HY7.out.cells;obtain⟨v0,v1,v2,v3,v4,v5⟩:=S7.out.vis.cells;obtain⟨d0,d1,d2,d3,d4,d5⟩:=S7.out.drv.cells;have hcs:=a_c (w.heap.size+4);have hfs:=a_d;have hff:=Blk.free S7.out.res;obtain⟨x0,x1,x2⟩:=S7.out.res.cells;cases sv with
 |false=>
  have HD:Hid (r=.error 15):=by show r=_;rw[← HR.out];exact e_N HFO.out HFST.out HLOAD.out (.inr (.inl (by rw[HSI.out];exact HSV.out)))
  have HB:=Lib.hid (S7.out.bad leg0);have HRS:=Lib.hid (c_k S7.out.res leg0).cells;go_wp2_with fail
  refine bodyPost_ret (v:=.tuple #[legV leg0,.int .i64 15]) ?_ rfl (b_W HD.out HB.out);obtain⟨r0,r1,r2⟩:=HRS.out;simp[results,Tryz.results186,go_sem,r0,r1,r2]
 |true=>
 by_cases hto:d.win.to<x.leave
 ·have HD:Hid (r=.error 15):=by show r=_;rw[← HR.out];exact e_N HFO.out HFST.out HLOAD.out (.inr (.inr hto))
  have HB:=Lib.hid (S7.out.bad leg0);have HRS:=Lib.hid (c_k S7.out.res leg0).cells;go_wp2_with fail
  refine bodyPost_ret (v:=.tuple #[legV leg0,.int .i64 15]) ?_ rfl (b_W HD.out HB.out);obtain⟨r0,r1,r2⟩:=HRS.out;simp[results,Tryz.results186,go_sem,r0,r1,r2]
 ·have HD:Hid (r=.ok ⟨si.place,x.leave,ld⟩):=by
   show r=_;have:=j_7 (seen:=seen) HFO.out HFST.out HLOAD.out (by rw[HSI.out,HTT.out];exact HARR.out) (by rw[HSI.out];exact HSV.out) hto;rw[HSI.out,HLD.out]at this;rw[← HR.out];exact this
  have HB:=Lib.hid (S7.out.bad ⟨si.place,x.leave,ld⟩);have HRS:=Lib.hid (c_k S7.out.res ⟨si.place,x.leave,ld⟩).cells;go_wp2_with fail
  refine bodyPost_ret (v:=.tuple #[legV ⟨si.place,x.leave,ld⟩,.int .i64 0]) ?_ rfl (j_6 HD.out HB.out);obtain⟨r0,r1,r2⟩:=HRS.out;simp[results,Tryz.results186,go_sem,r0,r1,r2]
end Cert
namespace Cert
theorem q_y{P:Program}{o:Oper}{a:Act}{u:World}{f:Nat}{ts:Array TypeId}{x1 x2 x3 x4 x5:Operand}{v1 v2 v3 v4 v5:Value}(h:o.op=.call {callee:=.value (.func f),args:=#[x1,x2,x3,x4,x5],argTypes:=ts })(h1:a.eval x1=v1)(h2:a.eval x2=v2)(h3:a.eval x3=v3)(h4:a.eval x4=v4)(h5:a.eval x5=v5)
 (hf:(callFunc f #[v1,v2,v3,v4,v5]).run P u=.ok (.enter f #[v1,v2,v3,v4,v5]) u):(execOp a.eval o).run P u=.ok (.enter f #[v1,v2,v3,v4,v5]) u:=by
 have hf':a.eval (.func f)=.func (.func f) #[] #[]:=rfl;obtain⟨ρ,hρ⟩:∃ρ,a.eval=ρ:=⟨_,rfl⟩;rw[hρ]at h1 h2 h3 h4 h5 hf' ⊢;unfold execOp;rw[h];simp[go_sem,hf',h1,h2,h3,h4,h5,hf]
theorem g_H{o:Oper}{a:Act}{u:World}{x y:Operand}{A:Option Addr}{n c h:Nat}(ho:o.op=.slice 35 x none (some y) none)(hx:a.eval x=.slice A n c)(hy:a.eval y=.int .i64 (h:Int))(h2:h≤n)(h3:n≤c):
 (execOp a.eval o).run Tryz.prog u=.ok (.value (.slice A h c)) u:=by
 have hsz:(sizeOf 48).run Tryz.prog u=.ok 2 u:=by
  obtain⟨i,hi,_,hz,_⟩:=info_parts e_4;simp[sizeOf,typeInfo,hi,hz]
 have q:h≤c:=Nat.le_trans h2 h3
 have hz0:A.map (·.add 0)=A:=by
  cases A with
  |none=>rfl
  |some ad=>rfl
 have hr:(Instr.sliceAt 35 (.slice A n c) none (some (.int .i64 (h:Int))) none).run Tryz.prog u=.ok (.slice A h c) u:=by
  simp[Instr.sliceAt,Instr.slice,Instr.sliceBounds,Instr.sliceBound,run_underlying Tryz.underlying35,asIntOf,hsz,q];intro _;exact hz0
 obtain⟨ρ,hρ⟩:∃ρ,a.eval=ρ:=⟨_,rfl⟩;rw[hρ]at hx hy ⊢;unfold execOp;rw[ho];simp only[hx,hy,Option.map_none,Option.map_some,Sem.run_bind,hr,Result.andThen_ok,Sem.run_pure]
theorem g_I{u:World}{g:Nat}{q A A2:Option Addr}{n c n2 c2:Nat}(h:FlBox u g q A n c A2 n2 c2):(Instr.loadAt 163 (.pointer (some ⟨g,0,none⟩))).run Tryz.prog u=.ok (d_m q A n c A2 n2 c2) u:=by
 obtain⟨d0,d1,d2⟩:=h.cells;simp[go_sem,d0,d1,d2]
theorem i_B{u:World}{g:Nat}{st:St}(h:LBox u g st):(Instr.loadAt 248 (.pointer (some ⟨g,0,none⟩))).run Tryz.prog u=.ok (legV st) u:=by
 obtain⟨d0,d1,d2⟩:=h.cells;simp[go_sem,d0,d1,d2]
theorem h_O{u:World}{g:Nat}{d:Drv}(h:DBox u g d):(Instr.loadAt 33 (.pointer (some ⟨g,0,none⟩))).run Tryz.prog u=.ok (drvV d) u:=by
 obtain⟨d0,d1,d2,d3,d4,d5⟩:=h.cells;simp[go_sem,d0,d1,d2,d3,d4,d5]
theorem h_P{u:World}{g:Nat}{x:Vis}(h:VBox u g x):(Instr.loadAt 245 (.pointer (some ⟨g,0,none⟩))).run Tryz.prog u=.ok (visV x) u:=by
 obtain⟨d0,d1,d2,d3,d4,d5⟩:=h.cells;simp[go_sem,d0,d1,d2,d3,d4,d5]
theorem o_a{o:Oper}{a:Act}{u:World}(h:o.op=.alloc 248):(execOp a.eval o).run Tryz.prog u=.ok (.value (.pointer (some ⟨u.heap.size,0,none⟩))) (u.alloc (.cells #[.int .i64 0,.int .i64 0,.int .i64 0] 248)):=by
 unfold execOp;rw[h];simp[go_sem]
theorem h_Q{u:World}{g:Nat}{st:St}(h:Blk u g 248 [.int .i64 0,.int .i64 0,.int .i64 0]):(Instr.storeAt 248 (.pointer (some ⟨g,0,none⟩)) (legV st)).run Tryz.prog u=.ok () (putL u g st):=by
 have c0:=h.cell (i:=0) rfl;have c1:=h.cell (i:=1) rfl;have c2:=h.cell (i:=2) rfl;have hff:=h.free;have hcs:=a_c g;have hfs:=a_d;simp[go_sem,c0,c1,c2,hff,hcs,hfs]
theorem o_b{m:Mp}{d:Drv}{os:List FleetMath.Ord}{seen:List Stp}{st:St}{x:Vis}{e:Int}(h:a_O m d os seen st x=.error e):e≠0:=by
 unfold a_O at h;split at h
 ·injection h with h;omega
 split at h
 ·injection h with h;omega
 split at h
 ·injection h with h;omega
 split at h
 ·injection h with h;omega
 split at h
 ·injection h with h;omega
 ·cases h
theorem j_9{m:Mp}{d:Drv}{os:List FleetMath.Ord}{seen:List Stp}{st:St}{x:Vis}{r:Except Int St}(h:a_O m d os seen st x=r):∃st2 e2,h_N r=.tuple #[legV st2,.int .i64 e2]∧(e2=0→r=.ok st2)∧(e2≠0→r=.error e2):=by
 cases r with
 |error e=>exact⟨leg0,e,rfl,fun h0=>absurd h0 (o_b h),fun _=>rfl⟩
 |ok st2=>exact⟨st2,0,rfl,fun _=>rfl,fun h0=>absurd rfl h0⟩
def e_9(m:Mp)(ds:List Drv)(os:List FleetMath.Ord)(r:Rte)(vs:List Vis):Int:=
 match a_o ds r.drv with
 |none=>8
 |some d=>oneC m d os r.stops vs
theorem d_2{m:Mp}{ds:List Drv}{os:List FleetMath.Ord}{r:Rte}{vs:List Vis}(h:a_o ds r.drv=none):e_9 m ds os r vs=8:=by unfold e_9;rw[h]
theorem d_3{m:Mp}{ds:List Drv}{os:List FleetMath.Ord}{r:Rte}{vs:List Vis}{d:Drv}(h:a_o ds r.drv=some d):e_9 m ds os r vs=oneC m d os r.stops vs:=by unfold e_9;rw[h]
structure LS(w:World)(q A:Option Addr)(n c:Nat)(A2:Option Addr)(n2 c2:Nat)(x:RM)(gd gl:Nat)(d:Drv)(st:St)(u:World):Prop where
 old:Below w.heap.size w u
 box:FlBox u w.heap.size q A n c A2 n2 c2
 rte:RBox u (w.heap.size+1) x
 drv:DBox u gd d
 leg:LBox u gl st
 one:w.heap.size+2≤gd
 two:gd<gl
section
variable {w u u' : World} {q A A2 : Option Addr} {n c n2 c2 : Nat} {x : RM} {gd gl : Nat} {d : Drv} {st : St}
theorem LS.next(h:LS w q A n c A2 n2 c2 x gd gl d st u)(hb:Below u.heap.size u u'):LS w q A n c A2 n2 c2 x gd gl d st u':=⟨h.old.trans (hb.mono h.old.size),h.box.below hb,h.rte.below hb,h.drv.below hb,h.leg.below hb,h.one,h.two⟩
theorem LS.put(h:LS w q A n c A2 n2 c2 x gd gl d st u)(s2:St):LS w q A n c A2 n2 c2 x gd gl d s2 (putL u gl s2):=by
 have h1:=h.one;have h2:=h.two;have ho:Only gl u (putL u gl s2):=(((Only.refl _ _).set _ _).set _ _).set _ _;exact⟨h_c h.old (by omega) _,ho.blk h.box (by omega),ho.blk h.rte (by omega),ho.blk h.drv (by omega),c_k h.leg s2,h.one,h.two⟩
end
theorem m_r(base bm mn:Nat)(ml:List Int)(A:Option Addr)(n c:Nat)(ds:List Drv)(A2:Option Addr)(n2 c2:Nat)(os:List FleetMath.Ord)(x:RM)(A5:Option Addr)(n5 c5:Nat)(vs:List Vis)(fe:Int)(w:World)(hxc:x.n≤x.c)(h80:x.n≤80)
 (h:MapP w 92 base (.pointer (some ⟨bm,0,none⟩)) (some ⟨mn,ml⟩)) (hd:Drvs w w.heap.size A n ds) (ho:Ords w w.heap.size A2 n2 os) (hs:Stps w w.heap.size x.a x.n x.rt.stops) (hv:Viss w w.heap.size A5 n5 vs)
 (hde:∀d∈ds,drvE (some ⟨mn,ml⟩) d=0) (hok:∀o∈os,OrdOk ⟨mn,ml⟩ o) (hr:e_9 ⟨mn,ml⟩ ds os x.rt vs=fe):
 Calls Tryz.prog 127 #[d_m (some ⟨bm,0,none⟩) A n c A2 n2 c2,rteV x,.slice A5 n5 c5] w (a_y w (.int .i64 fe)):=by
 have hm5:=Recs.le hv;have HM:=Lib.hid h;have HD:=Lib.hid hd;have HO:=Lib.hid ho;have HST:=Lib.hid hs;have HV:=Lib.hid hv;have HLV:=Lib.hid hv.length;have HLS:=Lib.hid hs.length;have HDE:=Lib.hid hde;have HOK:=Lib.hid hok;have HR:=Lib.hid hr;obtain⟨od,hod⟩:∃r,a_o ds x.rt.drv=r:=⟨_,rfl⟩;have HOD:=Lib.hid hod;have S0:Hid (DS w (some ⟨bm,0,none⟩) A n c A2 n2 c2 x (WD w (some ⟨bm,0,none⟩) A n c A2 n2 c2 x)):=DS.start;clear h hd ho hs hv hde hok hr hod;go_enter Tryz.func127,Tryz.ntmps127;obtain⟨f0,f1,f2⟩:=S0.out.box.cells;obtain⟨r0,r1,r2⟩:=S0.out.rte.cells;go_wp2_with fail
 refine(d_1 A n c ds x.rt.drv od _ (by exact Recs.more (Recs.keep HD.out S0.out.old) S0.out.old.size) HOD.out).mono ?_;rintro e w1 ⟨rfl,hb⟩;have S1:=Lib.hid (S0.out.next hb);clear hb S0 f0 f1 f2 r0 r1 r2;cases od with
 |none=>
  have hv:f_s none=.tuple #[drvV drv0,.bool false]:=rfl;rw[hv];clear hv;have HF:Hid (8=fe):=by show _=_;rw[← HR.out];exact(d_2 HOD.out).symm
  have HB:=Lib.hid (S1.out.old.alloc S1.out.old.size (.cells #[.int .i64 0,.int .i64 0,.int .i64 0,.int .i64 0,.int .i64 0,.bool false] 33));go_wp2_with fail
  go_ret;exact⟨a_5 HF.out,HB.out⟩
 |some d=>
  have hv:f_s (some d)=.tuple #[drvV d,.bool true]:=rfl;rw[hv];clear hv;have HF:Hid (oneC ⟨mn,ml⟩ d os x.rt.stops vs=fe):=by show _=_;rw[← HR.out];exact(d_3 HOD.out).symm
  have HDD:Hid (drvE (some ⟨mn,ml⟩) d=0):=HDE.out d (List.mem_of_find?_eq_some HOD.out);have S2:Hid (DS w (some ⟨bm,0,none⟩) A n c A2 n2 c2 x (w1.alloc (.cells #[.int .i64 d.id,.int .i64 d.room,.int .i64 d.home,.int .i64 d.win.fr,.int .i64 d.win.to,.bool d.retired] 33))):=S1.out.next ((Below.refl _ _).alloc (Nat.le_refl _) _);have HX2:Hid (DBox (w1.alloc (.cells #[.int .i64 d.id,.int .i64 d.room,.int .i64 d.home,.int .i64 d.win.fr,.int .i64 d.win.to,.bool d.retired] 33)) w1.heap.size d):=Blk.new w1 _ _;have HGD:Hid (w.heap.size+2≤w1.heap.size):=S1.out.size;obtain⟨gd,hgd⟩:∃g,w1.heap.size=g:=⟨_,rfl⟩;obtain⟨w2,hw2⟩:∃u,w1.alloc (.cells #[.int .i64 d.id,.int .i64 d.room,.int .i64 d.home,.int .i64 d.win.fr,.int .i64 d.win.to,.bool d.retired] 33)=u:=⟨_,rfl⟩;go_upto_region 2 with fail
  rw[hgd]at HX2 HGD;rw[hw2]at S2 HX2;clear hw2 hgd S1;obtain⟨r0,r1,r2⟩:=S2.out.rte.cells;obtain⟨b,hbe⟩:∃b,decide (vs.map (·.stop)=x.rt.stops)=b:=⟨_,rfl⟩;have HBE:=Lib.hid hbe;clear hbe;go_wp2_with fail
  refine(m_y A5 n5 c5 vs x.a x.n x.c x.rt.stops b _ (by exact Recs.more (Recs.keep HV.out S2.out.old) S2.out.old.size) (by exact Recs.more (Recs.keep HST.out S2.out.old) S2.out.old.size) HBE.out).mono ?_;rintro e w3 ⟨rfl,hb⟩;have S3:=Lib.hid (S2.out.next hb);have HX3:=Lib.hid (HX2.out.below hb);clear hb S2 HX2 r0 r1 r2;cases b with
  |false=>
   have HE:Hid (4=fe):=by show _=_;rw[← HF.out];exact(s_u (of_decide_eq_false HBE.out)).symm
   go_wp2_with fail
   go_ret;exact⟨a_5 HE.out,S3.out.old⟩
  |true=>
   have HEQ:=Lib.hid (of_decide_eq_true HBE.out);have HG0:Hid (fe=e_j ⟨mn,ml⟩ d os (x.rt.stops.take 0) (st0 d) (vs.drop 0)):=by show _=_;rw[← HF.out];exact s_v HEQ.out
   obtain⟨m',hm',hdk⟩:=drvE_ok.1 HDD.out;injection hm' with hm';subst hm';have HOB0:Hid (OB (st0 d) 0):=OB.start hdk
   have hn5:n5=x.n:=by
    have h1:=HLV.out;have h2:=HLS.out;have h3:=congrArg List.length HEQ.out;rw[List.length_map]at h3;omega
   clear hdk HF HBE;obtain⟨d0,d1,d2,d3,d4,d5⟩:=HX3.out.cells
   have L4:Hid (LS w (some ⟨bm,0,none⟩) A n c A2 n2 c2 x gd w3.heap.size d (st0 d) (w3.alloc (.cells #[.int .i64 d.home,.int .i64 d.win.fr,.int .i64 0] 248))):=by
    have hbx:Below w3.heap.size w3 (w3.alloc (.cells #[.int .i64 d.home,.int .i64 d.win.fr,.int .i64 0] 248)):=(Below.refl _ _).alloc (Nat.le_refl _) _;have h4:=S3.out.next hbx;exact⟨h4.old,h4.box,h4.rte,HX3.out.below hbx,Blk.new w3 _ _,HGD.out,Blk.lt HX3.out⟩
   go_upto_region 7 with fail
   obtain⟨w4,hw4⟩:∃u,w3.alloc (.cells #[.int .i64 d.home,.int .i64 d.win.fr,.int .i64 0] 248)=u:=⟨_,rfl⟩;obtain⟨gl,hgl⟩:∃g,w3.heap.size=g:=⟨_,rfl⟩;rw[hw4]at L4 ⊢;rw[hgl]at L4 ⊢;clear hw4 hgl S3 HX3 d0 d1 d2 d3 d4 d5;go_wp2_with fail
   go_loopw [37] (fun i wr=>∃(k:Nat) (st:St),k≤n5∧i=.int .i64 k∧Hid (LS w (some ⟨bm,0,none⟩) A n c A2 n2 c2 x gd gl d st wr)∧Hid (fe=e_j ⟨mn,ml⟩ d os (x.rt.stops.take k) st (vs.drop k))∧Hid (OB st k)) (fun i _=>n5-(intOf i).toNat)
   case atStart=>exact⟨0,st0 d,Nat.zero_le _,rfl,L4,HG0,HOB0⟩
   case round=>
    clear L4 HG0 HOB0;obtain⟨k,st,hk,rfl,HL,HG,HB⟩:=hrel;by_cases hlt:k<n5
    ·obtain⟨b5,off5,x5,rfl,hbb5,hx5,hdr5,c0,c1,c2',c3,c4,c5'⟩:=Viss.at_ (Recs.keep HV.out HL.out.old) hlt
     have HG1:=HG.out;rw[hdr5]at HG1;have HG2:=Lib.hid HG1;have HX5:=Lib.hid hx5;obtain⟨r,hr⟩:∃r,a_O ⟨mn,ml⟩ d os (x.rt.stops.take k) st x5=r:=⟨_,rfl⟩;obtain⟨st2,e2,hfv,hf0,hf1⟩:=j_9 hr;have HRR:=Lib.hid hr;have HFV:=Lib.hid hfv;have HF0:=Lib.hid hf0;have HF1:=Lib.hid hf1;obtain⟨lf1,lf2⟩:=HB.out.left;have ll1:-1000000≤st.load:=by have:=HB.out.load;omega
     have ll2:st.load≤1000000:=by have:=HB.out.load;omega
     have L5:Hid (LS w (some ⟨bm,0,none⟩) A n c A2 n2 c2 x gd gl d st (wr.alloc (.cells #[.int .i64 x5.stop.ord,.bool x5.stop.drop,.int .i64 x5.arrive,.int .i64 x5.start,.int .i64 x5.leave,.int .i64 x5.load] 245))):=HL.out.next ((Below.refl _ _).alloc (Nat.le_refl _) _);have HX6:Hid (VBox (wr.alloc (.cells #[.int .i64 x5.stop.ord,.bool x5.stop.drop,.int .i64 x5.arrive,.int .i64 x5.start,.int .i64 x5.leave,.int .i64 x5.load] 245)) wr.heap.size x5):=Blk.new wr _ _;obtain⟨gv,hgv⟩:∃g,wr.heap.size=g:=⟨_,rfl⟩;obtain⟨w5,hw5⟩:∃u,wr.alloc (.cells #[.int .i64 x5.stop.ord,.bool x5.stop.drop,.int .i64 x5.arrive,.int .i64 x5.start,.int .i64 x5.leave,.int .i64 x5.load] 245)=u:=⟨_,rfl⟩;have hki:(k:Int)<(x.n:Int):=by omega
     clear hx5 hdr5 hr hfv hf0 hf1 HG1 HG;go_upto_region 10 with fail
     rw[hgv]at HX6;rw[hw5]at L5 HX6;clear hw5 hgv HL c0 c1 c2' c3 c4 c5'
     have HDV:Hid (∀ u,Below w5.heap.size w5 u→Calls Tryz.prog 186 #[d_m (some ⟨bm,0,none⟩) A n c A2 n2 c2,legV st,drvV d,visV x5,.slice x.a k x.c] u fun en u'=>en=.returned (.tuple #[legV st2,.int .i64 e2])∧Below u.heap.size u u'):=
      Lib.hid fun u hu=>by
       have hb0:=L5.out.old.trans (hu.mono L5.out.old.size);obtain⟨hma,hmn,hmap⟩:=f_Y (HM.out.keep hb0);have:=j_8 base bm mn ml A n c A2 n2 c2 os st d x5 x.a k x.c (x.rt.stops.take k) u hma hmn hmap (Recs.more (Recs.keep HO.out hb0) hb0.size) (c_W (Recs.more (Recs.keep HST.out hb0) hb0.size) (by omega)) HOK.out lf1 lf2 ll1 ll2;rw[HRR.out,HFV.out]at this;exact this
     have HC:Hid (∀ u,Below w5.heap.size w5 u→LS w (some ⟨bm,0,none⟩) A n c A2 n2 c2 x gd gl d st u∧VBox u gv x5):=Lib.hid fun u hu=>⟨L5.out.next hu,HX6.out.below hu⟩;go_cut [12,13] (fun pv ev wx=>∃gn,pv=.pointer (some ⟨gn,0,none⟩)∧ev=.int .i64 e2∧Hid (Below w5.heap.size w5 wx)∧Hid (LBox wx gn st2))
     case first=>
      refine a_s (boxRF [43,44,45,46,47,48,49,50,51,42,52,53,12,12,13] [d_m (some ⟨bm,0,none⟩) A n c A2 n2 c2,legV st,drvV d,visV x5,.pointer (some ⟨w.heap.size+1,2,none⟩),.slice x.a x.n x.c,.int .i64 (k:Int),.slice x.a k x.c,.tuple #[legV st2,.int .i64 e2],.tuple #[legV st2,.int .i64 e2],legV st2,.int .i64 e2,undef,undef,.int .i64 e2] 12 13 248 [.int .i64 0,.int .i64 0,.int .i64 0] [.int .i64 st2.at_,.int .i64 st2.left,.int .i64 st2.load]) (by kernel_rfl) (by kernel_rfl) (by kernel_rfl) (fun q hq=>?_) (by kernel_rfl) boxRF.mon ?_ ?_
      ·simp only[List.length_cons,List.length_nil]at hq
       simp only[boxRF];rw[if_neg (by omega)]
      ·refine⟨?_,?_,?_,?_,?_,?_,?_,?_,?_,?_,?_,?_,?_,?_,?_,trivial⟩
       ·exact boxRF.pureStep rfl 43 rfl rfl (by simp) (by decide) (by decide) _ rfl fun listed a u D hI hr hn=>a_f rfl (hI.out 3 (by kernel_rfl)) (g_I (HC.out _ (below_drew hI.old)).1.box)
       ·exact boxRF.pureStep rfl 44 rfl rfl (by simp) (by decide) (by decide) _ rfl fun listed a u D hI hr hn=>a_f rfl (hI.out 9 (by kernel_rfl)) (i_B (HC.out _ (below_drew hI.old)).1.leg)
       ·exact boxRF.pureStep rfl 45 rfl rfl (by simp) (by decide) (by decide) _ rfl fun listed a u D hI hr hn=>a_f rfl (hI.out 7 (by kernel_rfl)) (h_O (HC.out _ (below_drew hI.old)).1.drv)
       ·exact boxRF.pureStep rfl 46 rfl rfl (by simp) (by decide) (by decide) _ rfl fun listed a u D hI hr hn=>a_f rfl (hI.out 11 (by kernel_rfl)) (h_P (HC.out _ (below_drew hI.old)).2)
       ·exact boxRF.pureStep rfl 47 rfl rfl (by simp) (by decide) (by decide) _ rfl fun listed a u D hI hr hn=>a_H rfl (hI.out 4 (by kernel_rfl)) (by simp[go_sem])
       ·exact boxRF.pureStep rfl 48 rfl rfl (by simp) (by decide) (by decide) _ rfl fun listed a u D hI hr hn=>a_f rfl (boxRF.val hI hr hn 4 (by kernel_rfl) (by decide) (by decide) rfl rfl) (by have z:=(HC.out _ (below_drew hI.old)).1.rte.cells.2.2;simp[go_sem,z])
       ·exact boxRF.pureStep rfl 49 rfl rfl (by simp) (by decide) (by decide) _ rfl fun listed a u D hI hr hn=>a_a (.inl rfl) (hI.out 10 (by kernel_rfl))
       ·exact boxRF.pureStep rfl 50 rfl rfl (by simp) (by decide) (by decide) _ rfl fun listed a u D hI hr hn=>g_H rfl (boxRF.val hI hr hn 5 (by kernel_rfl) (by decide) (by decide) rfl rfl) (boxRF.val hI hr hn 6 (by kernel_rfl) (by decide) (by decide) rfl rfl) (by omega) hxc
       ·exact boxRF.callStep rfl 51 rfl rfl (by simp) (by decide) (by decide) _ rfl fun listed a u D hI hr hn=>⟨_,_,q_y rfl (boxRF.val hI hr hn 0 (by kernel_rfl) (by decide) (by decide) rfl rfl) (boxRF.val hI hr hn 1 (by kernel_rfl) (by decide) (by decide) rfl rfl) (boxRF.val hI hr hn 2 (by kernel_rfl) (by decide) (by decide) rfl rfl) (boxRF.val hI hr hn 3 (by kernel_rfl) (by decide) (by decide) rfl rfl) (boxRF.val hI hr hn 7 (by kernel_rfl) (by decide) (by decide) rfl rfl) (by simp[go_sem]),HDV.out _ (below_drew hI.old)⟩
       ·exact boxRF.pureStep rfl 42 rfl rfl (by simp) (by decide) (by decide) _ rfl fun listed a u D hI hr hn=>a_a (.inl rfl) (boxRF.val hI hr hn 8 (by kernel_rfl) (by decide) (by decide) rfl rfl)
       ·exact boxRF.pureStep rfl 52 rfl rfl (by simp) (by decide) (by decide) _ rfl fun listed a u D hI hr hn=>a_6 rfl (boxRF.val hI hr hn 9 (by kernel_rfl) (by decide) (by decide) rfl rfl) rfl
       ·exact boxRF.pureStep rfl 53 rfl rfl (by simp) (by decide) (by decide) _ rfl fun listed a u D hI hr hn=>a_6 rfl (boxRF.val hI hr hn 9 (by kernel_rfl) (by decide) (by decide) rfl rfl) rfl
       ·exact boxRF.allocStep rfl 12 rfl rfl (by simp) fun a u=>o_a rfl
       ·exact boxRF.storeStep rfl rfl rfl rfl (by decide) (by kernel_rfl) fun listed a u D hI hr hn g e1 hb=>⟨_,b_m rfl e1 (boxRF.val hI hr hn 10 (by kernel_rfl) (by decide) (by decide) rfl rfl) (h_Q hb),(((Only.refl _ _).set _ _).set _ _).set _ _,c_k (s0:=leg0) hb st2⟩
       ·exact boxRF.pureStep rfl 13 rfl rfl (by simp) (by decide) (by decide) _ rfl fun listed a u D hI hr hn=>a_a (.inr rfl) (boxRF.val hI hr hn 11 (by kernel_rfl) (by decide) (by decide) rfl rfl)
      ·intro listed a u D hI hall
       obtain⟨gt,eB,hbx⟩:=boxRF.box hI hall (by decide) (by decide) (s:=12) rfl
       have eR0:a.tmps.getD 13 undef=.int .i64 e2:=by
        have:=hI.fact 14 ⟨hall 14 (by simp),fun k hk=>by simp[boxRF]at hk⟩;simp only[boxRF]at this;rw[if_neg (by decide),if_neg (by decide)]at this;exact this.1
       have hold:=below_drew hI.old;have hl:=hI.fill [43,44,45,46,47,48,49,50,51,42,52,53,12,13] (by kernel_rfl);clear hI hall;obtain⟨σ,hσ⟩:∃σ:Nat→Value,∀t,a.tmps.getD t undef=σ t:=⟨_,fun _=>rfl⟩;simp only[hσ]at hl eB eR0;clear hσ;simp only[List.foldl_cons,List.foldl_nil,List.setIfInBounds_toArray,List.set_cons_zero,List.set_cons_succ,eB,eR0]at hl;subst hl;go_wp2_with fail
       go_meet
       exact⟨gt,rfl,rfl,hold,hbx⟩
     case rest=>
     obtain⟨gn,rfl,rfl,HB5,HN5⟩:=hcut;obtain⟨w6,rfl⟩:∃u,u=wc:=⟨_,rfl⟩;have L6:=Lib.hid (L5.out.next HB5.out);clear HC HDV L5 HX6 HB5;by_cases he:e2=0
     ·subst he
      have HOKR:=Lib.hid (HRR.out.trans (HF0.out rfl))
      have HXS:Hid (x.rt.stops.take k++[x5.stop]=x.rt.stops.take (k+1)):=by
       show _=_;have h1:(vs.map (·.stop))[k]?=some x5.stop:=by rw[List.getElem?_map,HX5.out];rfl
       rw[HEQ.out]at h1;rw[List.take_add_one,h1];rfl
      have HN:=Lib.hid (s_t HG2.out HOKR.out);have HNN:Hid (fe=e_j ⟨mn,ml⟩ d os (x.rt.stops.take (k+1)) st2 (vs.drop (k+1))):=by show _=_;rw[← HXS.out];exact HN.out
      have HB2:=Lib.hid (HB.out.next HOK.out HOKR.out);have L7:=Lib.hid (L6.out.put st2);clear HF0 HF1 HN HG2 HRR HFV;have hcs:=a_c gl;have hfs:=a_d;have hff:=Blk.free L6.out.leg;obtain⟨x0,x1,x2⟩:=L6.out.leg.cells;obtain⟨y0,y1,y2⟩:=HN5.out.cells;go_wp2_with fail
      go_roundw
      case rel=>exact⟨k+1,st2,by omega,by go_num,L7,HNN,HB2⟩
      case measure=>simp[intOf];omega
     ·have HE:Hid (e2=fe):=by show _=_;exact(q_I HG2.out (HRR.out.trans (HF1.out he))).symm
      have e1:(e2 != 0)=true:=by simpa using he
      clear HF0 HF1 HG2 HRR HFV he;go_wp2_with fail
      go_ret;exact⟨a_5 HE.out,L6.out.old⟩
    ·have HE:Hid (fe=if 0<st.load then 18 else 0):=by
      have h1:=HG.out;rw[List.drop_of_length_le (by have:=HLV.out;omega)]at h1;exact t_d h1
     clear HG;obtain⟨x0,x1,x2⟩:=HL.out.leg.cells;by_cases hpos:0<st.load
     ·have HE2:Hid (18=fe):=by have:=HE.out;rw[if_pos hpos]at this;exact this.symm
      go_wp2_with fail
      go_ret;exact⟨a_5 HE2.out,HL.out.old⟩
     ·have HE2:Hid (0=fe):=by have:=HE.out;rw[if_neg hpos]at this;exact this.symm
      go_wp2_with fail
      go_ret;exact⟨a_5 HE2.out,HL.out.old⟩
end Cert
end Go.Proofs.YtkpnmpjnpcjohaaGreat
