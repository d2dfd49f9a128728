/- The code's chapter 4: see K1 .. K9. -/
import Derived.Test.YtbipdfeikmchcaaK9
